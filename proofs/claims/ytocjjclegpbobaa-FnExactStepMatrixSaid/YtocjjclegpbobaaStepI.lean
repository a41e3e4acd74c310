/- StepMatrix, the program's and the model's: the plain function of the automaton and the letter, in new memory; nothing that was there changes. No condition. -/
import Derived.Test.YtocjjclegpbobaaMach2
import Derived.Test.YtocjjclegpbobaaStepM
import Derived.Test.YtocjjclegpbobaaAutS
import Derived.Test.YtocjjclegpbobaaCopyM
namespace Go.Proofs.Ytocjjclegpbobaa
open Go.RowKit
set_option maxHeartbeats 4000000
set_option maxRecDepth 100000
set_option linter.unusedVariables false

def stepR (m : Int) (xs ys : List Int) (ss : List StepD) (l : ByteArray) : Option (Int × List Int) := if autoOk m xs ys ss = true ∧ letOk l = true then some (m, stepL m.toNat ss l) else none
theorem stepR_some {n : Nat} {xs ys : List Int} {ss : List StepD} {l : ByteArray} (h : autoOk n xs ys ss = true) (hl : letOk l = true) : stepR n xs ys ss l = some ((n : Int), stepL n ss l) := by
  unfold stepR; rw [if_pos ⟨h, hl⟩]; rfl
theorem stepR_none {m : Int} {xs ys : List Int} {ss : List StepD} {l : ByteArray} (h : ¬ (autoOk m xs ys ss = true ∧ letOk l = true)) : stepR m xs ys ss l = none := by
  unfold stepR; rw [if_neg h]
theorem mat_set {w : World} {base n R : Nat} {v : Value} {m : Int} {zs : List Int} (h : MatOwn w base v m zs) {u0 u1 : Value} (rc : Blk w R 43 #[u0, u1]) (v0 v1 : Value) : MatOwn ((w.setCell ⟨R, 0, none⟩ v0).setCell ⟨R, 1, none⟩ v1) base v m zs := by
  obtain ⟨x, rfl, ho, hl⟩ := h
  refine ⟨x, rfl, ?_, hl⟩
  have h1 := own_other ho rc (by decide)
  have k1 : ∀ i u, (w.setCell ⟨R, i, none⟩ u).ownsRow base 3 1 x zs.length (zs.map (Value.int .i64)) := fun i u => ho.kept (grow_set w R i u) (by
    rcases h0 : x.ownBlock with _ | j
    · exact Or.inl rfl
    · right; intro he; exact h1 (by rw [h0]; exact he.symm))
  have rc' : Blk (w.setCell ⟨R, 0, none⟩ v0) R 43 _ := rc.set_ 0 v0
  have h2 := own_other (k1 0 v0) rc' (by decide)
  exact (k1 0 v0).kept (grow_set _ R 1 v1) (by
    rcases h0 : x.ownBlock with _ | j
    · exact Or.inl rfl
    · right; intro he; exact h2 (by rw [h0]; exact he.symm))

theorem iStepMatrix_any (m : Int) (A1 A2 A3 : Option Addr) (c1 c2 c3 : Nat) (xs ys : List Int) (ss : List StepD) (l : ByteArray) (w : World) (hx : Ints w w.heap.size A1 xs) (hy : Ints w w.heap.size A2 ys) (hs : SRow w w.heap.size A3 ss) :
    Calls Try.prog 21 #[.agg #[.int .i64 m, .slice A1 xs.length c1, .slice A2 ys.length c2, .slice A3 ss.length c3], .string l] w fun e w' => MEnd (stepR m xs ys ss l) w e w' := by
  have HX0 := Lib.hid (ints_al (ints_al hx (.cells #[.int .i64 m, .slice A1 xs.length c1, .slice A2 ys.length c2, .slice A3 ss.length c3] 37)) (.cells #[.int .i64 0, .slice none 0 0] 43))
  have HY0 := Lib.hid (ints_al (ints_al hy (.cells #[.int .i64 m, .slice A1 xs.length c1, .slice A2 ys.length c2, .slice A3 ss.length c3] 37)) (.cells #[.int .i64 0, .slice none 0 0] 43))
  have HS := Lib.hid ((hs.al (.cells #[.int .i64 m, .slice A1 xs.length c1, .slice A2 ys.length c2, .slice A3 ss.length c3] 37)).al (.cells #[.int .i64 0, .slice none 0 0] 43))
  clear hx hy hs
  obtain ⟨ok, hok⟩ : ∃ b, autoOk m xs ys ss = b := ⟨_, rfl⟩
  obtain ⟨lk, hlk⟩ : ∃ b, letOk l = b := ⟨_, rfl⟩
  have HOK := Lib.hid hok
  have HLK := Lib.hid hlk
  cases ok
  · have HR : Hid (stepR m xs ys ss l = none) := stepR_none (fun h => by rw [HOK.out] at h; cases h.1)
    clear hok hlk
    go_enter Try.func21, Try.ntmps21
    go_wp2_with fail
    refine (machineOf_no _ _ _ _ _ _ _ _ _ _ _ HX0.out HY0.out HS.out HOK.out).mono ?_
    rintro e w1 ⟨rfl, hb1⟩
    have B1 := Lib.hid (below_on (below_a2 w _ _) hb1.out)
    have R1 : Hid (Blk w1 (w.heap.size + 1) 43 #[.int .i64 0, .slice none 0 0]) := (blk_new (by simp)).below hb1.out (by simp)
    clear hb1 HX0 HY0 HS
    have hw1 := Blk.lt R1.out
    have R2 := Lib.hid (R1.out.alloc (.cells #[.int .i64 0, .bool false, .bool false, .bool false, .bool false, .bool false, .bool false, .bool false, .bool false, .map none] 69))
    have B2 := Lib.hid (below_al B1.out (Nat.le_refl _) (.cells #[.int .i64 0, .bool false, .bool false, .bool false, .bool false, .bool false, .bool false, .bool false, .bool false, .map none] 69))
    obtain ⟨d0, d1⟩ := two_cells R1.out
    obtain ⟨f0, f1⟩ := two_frozen R1.out
    go_wp2_with fail
    have HF := ((R1.out.set_ 0 (.int .i64 0)).set_ 1 (.slice none 0 0)).alloc (.cells #[.int .i64 0, .bool false, .bool false, .bool false, .bool false, .bool false, .bool false, .bool false, .bool false, .map none] 69)
    refine bodyPost_ret (results_2 rfl (gives_mat (g := w.heap.size + 1) rfl HF) (Gives.tmp rfl)) rfl ?_
    exact MEnd.none_ HR.out (below_al ((B1.out.setCell (p := ⟨_, 0, none⟩) (Nat.le_succ _) _).setCell (p := ⟨_, 1, none⟩) (Nat.le_succ _) _) (Nat.le_refl _) _)
  · obtain ⟨n, rfl, n1, n2, hxi, hyi, hsl, hsi⟩ := auto_in hok
    have HSI := Lib.hid hsi
    clear hxi hyi hsi hsl hok hlk
    go_enter Try.func21, Try.ntmps21
    go_wp2_with fail
    refine (machineOf_ok _ _ _ _ _ _ _ _ _ _ _ HX0.out HY0.out HS.out HOK.out).mono ?_
    rintro e w1 ⟨M, rfl, hM, hmap, hb1⟩
    have B1 := Lib.hid (below_on (below_a2 w _ _) hb1.out)
    have R1 : Hid (Blk w1 (w.heap.size + 1) 43 #[.int .i64 0, .slice none 0 0]) := (blk_new (by simp)).below hb1.out (by simp)
    clear hb1 HX0 HY0 HS
    have hw1 := Blk.lt R1.out
    have hMw := hmap.out.lt
    have R2 := Lib.hid (R1.out.alloc (.cells #[.int .i64 n, .bool (hasB xs 0), .bool (hasB xs 1), .bool (hasB xs 2), .bool (hasB xs 3), .bool (hasB ys 0), .bool (hasB ys 1), .bool (hasB ys 2), .bool (hasB ys 3), .map (some M)] 69))
    have B2 := Lib.hid (below_al B1.out (Nat.le_refl _) (.cells #[.int .i64 n, .bool (hasB xs 0), .bool (hasB xs 1), .bool (hasB xs 2), .bool (hasB xs 3), .bool (hasB ys 0), .bool (hasB ys 1), .bool (hasB ys 2), .bool (hasB ys 3), .map (some M)] 69))
    have M2 := Lib.hid (hmap.out.kept (World.grownBy_alloc w1 (.cells #[.int .i64 n, .bool (hasB xs 0), .bool (hasB xs 1), .bool (hasB xs 2), .bool (hasB xs 3), .bool (hasB ys 0), .bool (hasB ys 1), .bool (hasB ys 2), .bool (hasB ys 3), .map (some M)] 69) none) (by simp))
    clear hmap hM
    cases lk
    · have HR : Hid (stepR n xs ys ss l = none) := stepR_none (fun h => by rw [HLK.out] at h; cases h.2)
      obtain ⟨d0, d1⟩ := two_cells R1.out
      obtain ⟨f0, f1⟩ := two_frozen R1.out
      go_wp2_with fail
      refine (letterValid_is _ false _ HLK.out).mono ?_
      rintro e w' ⟨rfl, rfl⟩
      go_wp2_with fail
      have HF := ((R1.out.set_ 0 (.int .i64 0)).set_ 1 (.slice none 0 0)).alloc (.cells #[.int .i64 n, .bool (hasB xs 0), .bool (hasB xs 1), .bool (hasB xs 2), .bool (hasB xs 3), .bool (hasB ys 0), .bool (hasB ys 1), .bool (hasB ys 2), .bool (hasB ys 3), .map (some M)] 69)
      refine bodyPost_ret (results_2 rfl (gives_mat (g := w.heap.size + 1) rfl HF) (Gives.tmp rfl)) rfl ?_
      exact MEnd.none_ HR.out (below_al ((B1.out.setCell (p := ⟨_, 0, none⟩) (Nat.le_succ _) _).setCell (p := ⟨_, 1, none⟩) (Nat.le_succ _) _) (Nat.le_refl _) _)
    · have HR : Hid (stepR n xs ys ss l = some ((n : Int), stepL n ss l)) := stepR_some HOK.out HLK.out
      have hll : Hid (l.size ≤ maxLen) := by
        rcases isL_of HLK.out with h | h <;> (show _ ≤ _; rw [h]; decide)
      go_wp2_with fail
      refine (letterValid_is _ true _ HLK.out).mono ?_
      rintro e w' ⟨rfl, rfl⟩
      go_wp2_with fail
      refine (matrixI_any n M _ _ _ _ _ _ _ _ _ _ l (stepL n ss l) _ n1 n2 hll.out rfl M2.out).mono ?_
      rintro e w3 ⟨v, rfl, ho3, hb3⟩
      obtain ⟨x, rfl, hox, hlx⟩ := ho3
      have R3 := Lib.hid (R2.out.below hb3 (Blk.lt R2.out))
      have B3 := Lib.hid (below_on B2.out hb3)
      have O3 : Hid (MatOwn w3 w.heap.size (.agg #[.int .i64 n, x]) n (stepL n ss l)) := ⟨x, rfl, own_base hox (by simp; omega), hlx⟩
      obtain ⟨A, cap, rfl, _, _⟩ := own_ints hox (by unfold maxLen; omega)
      clear hb3 hox
      obtain ⟨d0, d1⟩ := two_cells R3.out
      obtain ⟨f0, f1⟩ := two_frozen R3.out
      go_wp2_with fail
      have HF := (R3.out.set_ 0 (.int .i64 n)).set_ 1 (.slice A (stepL n ss l).length cap)
      refine bodyPost_ret (results_2 rfl (gives_mat (g := w.heap.size + 1) rfl HF) (Gives.tmp rfl)) rfl ?_
      exact MEnd.some_ HR.out (mat_set (n := 0) O3.out R3.out _ _) ((B3.out.setCell (p := ⟨_, 0, none⟩) (Nat.le_succ _) _).setCell (p := ⟨_, 1, none⟩) (Nat.le_succ _) _)

theorem sStepMatrix_any (m : Int) (A1 A2 A3 : Option Addr) (c1 c2 c3 : Nat) (xs ys : List Int) (ss : List StepD) (l : ByteArray) (w : World) (hx : Ints w w.heap.size A1 xs) (hy : Ints w w.heap.size A2 ys) (hs : SRow w w.heap.size A3 ss) :
    Calls Try.prog 20 #[.agg #[.int .i64 m, .slice A1 xs.length c1, .slice A2 ys.length c2, .slice A3 ss.length c3], .string l] w fun e w' => MEnd (stepR m xs ys ss l) w e w' := by
  have HX0 := Lib.hid (ints_al (ints_al hx (.cells #[.int .i64 m, .slice A1 xs.length c1, .slice A2 ys.length c2, .slice A3 ss.length c3] 37)) (.cells #[.int .i64 0, .slice none 0 0] 43))
  have HY0 := Lib.hid (ints_al (ints_al hy (.cells #[.int .i64 m, .slice A1 xs.length c1, .slice A2 ys.length c2, .slice A3 ss.length c3] 37)) (.cells #[.int .i64 0, .slice none 0 0] 43))
  have HS := Lib.hid ((hs.al (.cells #[.int .i64 m, .slice A1 xs.length c1, .slice A2 ys.length c2, .slice A3 ss.length c3] 37)).al (.cells #[.int .i64 0, .slice none 0 0] 43))
  clear hx hy hs
  obtain ⟨ok, hok⟩ : ∃ b, autoOk m xs ys ss = b := ⟨_, rfl⟩
  obtain ⟨lk, hlk⟩ : ∃ b, letOk l = b := ⟨_, rfl⟩
  have HOK := Lib.hid hok
  have HLK := Lib.hid hlk
  cases ok
  · have HR : Hid (stepR m xs ys ss l = none) := stepR_none (fun h => by rw [HOK.out] at h; cases h.1)
    clear hok hlk
    go_enter Try.func20, Try.ntmps20
    go_wp2_with fail
    refine (sAutomatonValid_is _ _ _ _ _ _ _ _ _ _ false _ HX0.out HY0.out HS.out HOK.out).mono ?_
    rintro e w1 ⟨rfl, hb1⟩
    have B1 := Lib.hid (below_on (below_a2 w _ _) hb1.out)
    have R1 : Hid (Blk w1 (w.heap.size + 1) 43 #[.int .i64 0, .slice none 0 0]) := (blk_new (by simp)).below hb1.out (by simp)
    clear hb1 HX0 HY0 HS
    obtain ⟨d0, d1⟩ := two_cells R1.out
    obtain ⟨f0, f1⟩ := two_frozen R1.out
    go_wp2_with fail
    have HF := (R1.out.set_ 0 (.int .i64 0)).set_ 1 (.slice none 0 0)
    refine bodyPost_ret (results_2 rfl (gives_mat (g := w.heap.size + 1) rfl HF) (Gives.tmp rfl)) rfl ?_
    exact MEnd.none_ HR.out ((B1.out.setCell (p := ⟨_, 0, none⟩) (Nat.le_succ _) _).setCell (p := ⟨_, 1, none⟩) (Nat.le_succ _) _)
  · obtain ⟨n, rfl, n1, n2, hxi, hyi, hsl, hsi⟩ := auto_in hok
    have HSI := Lib.hid hsi
    clear hxi hyi hsi hsl hok
    cases lk
    · have HR : Hid (stepR n xs ys ss l = none) := stepR_none (fun h => by rw [HLK.out] at h; cases h.2)
      unfold letOk at hlk
      obtain ⟨ne1, ne2⟩ := Bool.or_eq_false_iff.1 hlk
      clear hlk
      go_enter Try.func20, Try.ntmps20
      go_wp2_with fail
      refine (sAutomatonValid_is _ _ _ _ _ _ _ _ _ _ true _ HX0.out HY0.out HS.out HOK.out).mono ?_
      rintro e w1 ⟨rfl, hb1⟩
      have B1 := Lib.hid (below_on (below_a2 w _ _) hb1.out)
      have R1 : Hid (Blk w1 (w.heap.size + 1) 43 #[.int .i64 0, .slice none 0 0]) := (blk_new (by simp)).below hb1.out (by simp)
      clear hb1 HX0 HY0 HS
      obtain ⟨d0, d1⟩ := two_cells R1.out
      obtain ⟨f0, f1⟩ := two_frozen R1.out
      go_wp2_with fail
      have HF := (R1.out.set_ 0 (.int .i64 0)).set_ 1 (.slice none 0 0)
      refine bodyPost_ret (results_2 rfl (gives_mat (g := w.heap.size + 1) rfl HF) (Gives.tmp rfl)) rfl ?_
      exact MEnd.none_ HR.out ((B1.out.setCell (p := ⟨_, 0, none⟩) (Nat.le_succ _) _).setCell (p := ⟨_, 1, none⟩) (Nat.le_succ _) _)
    · have HR : Hid (stepR n xs ys ss l = some ((n : Int), stepL n ss l)) := stepR_some HOK.out HLK.out
      have HL := Lib.hid (isL_of HLK.out)
      clear hlk
      rcases HL.out with rfl | rfl
      all_goals
        go_enter Try.func20, Try.ntmps20
        go_wp2_with fail
        refine (sAutomatonValid_is _ _ _ _ _ _ _ _ _ _ true _ HX0.out HY0.out HS.out HOK.out).mono ?_
        rintro e w1 ⟨rfl, hb1⟩
        have B1 := Lib.hid (below_on (below_a2 w _ _) hb1.out)
        have R1 : Hid (Blk w1 (w.heap.size + 1) 43 #[.int .i64 0, .slice none 0 0]) := (blk_new (by simp)).below hb1.out (by simp)
        have P1 : Hid (Blk w1 w.heap.size 37 #[.int .i64 n, .slice A1 xs.length c1, .slice A2 ys.length c2, .slice A3 ss.length c3]) := ((Blk.new w _ _).alloc _).below hb1.out (by simp; omega)
        have S1 := Lib.hid (HS.out.on hb1.out)
        clear hb1 HX0 HY0 HS
        obtain ⟨k0, k1, k2, k3⟩ := four_cells P1.out
        go_wp2_with fail
        refine (l3Matrix_any n _ _ _ _ _ _ _ _ ss _ _ _ n1 n2 S1.out HSI.out HL.out rfl).mono ?_
        rintro e w3 ⟨v, rfl, ho3, hb3⟩
        obtain ⟨x, rfl, hox, hlx⟩ := ho3
        have R3 := Lib.hid (R1.out.below hb3 (Blk.lt R1.out))
        have B3 := Lib.hid (below_on B1.out hb3)
        have O3 := Lib.hid (own_base hox (show w.heap.size ≤ _ from B1.out.size))
        obtain ⟨A, cap, rfl, _, _⟩ := own_ints hox (by unfold maxLen; omega)
        have HLX := Lib.hid hlx
        clear hb3 hox k0 k1 k2 k3 P1 hlx
        obtain ⟨d0, d1⟩ := two_cells R3.out
        obtain ⟨f0, f1⟩ := two_frozen R3.out
        go_wp2_with fail
        have HF := fun q => (R3.out.set_ 0 (.int .i64 n)).set_ 1 (.slice A q cap)
        refine bodyPost_ret (results_2 rfl (gives_mat (g := w.heap.size + 1) rfl (HF _)) (Gives.tmp rfl)) rfl ?_
        exact MEnd.some_ HR.out (mat_set (n := 0) ⟨_, rfl, O3.out, HLX.out⟩ R3.out _ _) ((B3.out.setCell (p := ⟨_, 0, none⟩) (Nat.le_succ _) _).setCell (p := ⟨_, 1, none⟩) (Nat.le_succ _) _)
end Go.Proofs.Ytocjjclegpbobaa
