/- GradeBetween, the program's and the model's: the plain function of its numbers; and the walk of its exact law: it returns true for all arguments. Nothing that was there changes. -/
import Derived.Test.YtjhaegkefagngaaGreatDoorGVal
import Derived.Test.YtjhaegkefagngaaGreatDoorAutS
import Derived.Test.YtjhaegkefagngaaGreatDoorSpecMin
import Derived.Deep.RegionHeld3
namespace Go.Proofs.YtjhaegkefagngaaGreatDoor
open Go.RowKit
set_option maxHeartbeats 4000000
set_option maxRecDepth 100000
set_option linter.unusedVariables false

/-- The least number so far and those from x to each of these. -/
def betIn (n : Nat) (zs : List Int) (x : Int) : Int → List Int → Int
  | acc, [] => acc
  | acc, y :: ys => betIn n zs x (min acc (zs.getD (x.toNat * n + y.toNat) 0)) ys
def betF (n : Nat) (zs ys : List Int) : Int → List Int → Int
  | acc, [] => acc
  | acc, x :: xs => betF n zs ys (betIn n zs x acc ys) xs
def betB (ma : Int) (xs ys : List Int) (ss : List StepD) (mm : Int) (zs : List Int) : Bool := autoOk ma xs ys ss && (gradeOk mm zs && decide (mm = ma))
def betR (ma : Int) (xs ys : List Int) (ss : List StepD) (mm : Int) (zs : List Int) : Int := if betB ma xs ys ss mm zs = true then betF mm.toNat zs ys 3 xs else -1
theorem w64_16 {p : Nat} (h : p < 16) : wrap64 (p : Int) = (p : Int) := w64_nat (by omega)
theorem marks_lt : ∀ {n last : Int} {xs : List Int}, marksF n last xs = true → ∀ x ∈ xs, last < x ∧ x < n
  | n, last, [], _, _, hx => by cases hx
  | n, last, p :: ps, h, x, hx => by
    simp only [marksF, Bool.and_eq_true, decide_eq_true_eq] at h
    rcases List.mem_cons.1 hx with rfl | hx
    · exact ⟨h.1, h.2.1⟩
    · have := marks_lt h.2.2 x hx; omega
theorem auto_lists {m : Int} {xs ys : List Int} {ss : List StepD} (h : autoOk m xs ys ss = true) : (∀ x ∈ xs, 0 ≤ x ∧ x < m) ∧ (∀ y ∈ ys, 0 ≤ y ∧ y < m) := by
  simp only [autoOk, Bool.and_eq_true] at h
  exact ⟨fun x hx => by have := marks_lt h.2.1 x hx; omega, fun x hx => by have := marks_lt h.2.2.1 x hx; omega⟩
theorem bet_no1 {ma mm : Int} {xs ys zs : List Int} {ss : List StepD} (h : autoOk ma xs ys ss = false) : betR ma xs ys ss mm zs = -1 := by simp [betR, betB, h]
theorem bet_no2 {ma mm : Int} {xs ys zs : List Int} {ss : List StepD} (h : gradeOk mm zs = false) : betR ma xs ys ss mm zs = -1 := by simp [betR, betB, h]
theorem bet_no3 {ma mm : Int} {xs ys zs : List Int} {ss : List StepD} (h : ¬ mm = ma) : betR ma xs ys ss mm zs = -1 := by simp [betR, betB, h]
theorem bet_yes {n : Nat} {xs ys zs : List Int} {ss : List StepD} (h : autoOk (n : Int) xs ys ss = true) (h' : gradeOk (n : Int) zs = true) : betR n xs ys ss n zs = betF n zs ys 3 xs := by simp [betR, betB, h, h']

theorem iBetween_any (ma : Int) (A1 : Option Addr) (c1 : Nat) (xs : List Int) (A2 : Option Addr) (c2 : Nat) (ys : List Int) (A3 : Option Addr) (c3 : Nat) (ss : List StepD) (mm : Int) (A : Option Addr) (cap : Nat) (zs : List Int) (r : Int) (w : World) (hx : Ints w w.heap.size A1 xs) (hy : Ints w w.heap.size A2 ys) (hs : SRow w w.heap.size A3 ss) (hz : Ints w w.heap.size A zs) (hr : betR ma xs ys ss mm zs = r) :
    Calls Tryz.prog 18 #[.agg #[.int .i64 ma, .slice A1 xs.length c1, .slice A2 ys.length c2, .slice A3 ss.length c3], .agg #[.int .i64 mm, .slice A zs.length cap]] w fun e w' => e = .returned (.int .i64 r) ∧ Below w.heap.size w w' := by
  have hl := hx.len
  have hl' := hy.len
  rcases Bool.eq_false_or_eq_true (gradeOk mm zs) with h1 | h1
  · obtain ⟨N, rfl, gv⟩ := gradeOk_t h1
    have n1 := gv.lo
    have n2 := gv.hi
    obtain ⟨p, hp⟩ : ∃ p, p = N * N := ⟨_, rfl⟩
    have p1 : p ≤ 16 := by rw [hp]; exact gv.mv.sq
    have HP := Lib.hid hp
    have hlp : zs.length = p := by rw [gv.len, hp]
    have HLZ := Lib.hid hlp
    have H1 := Lib.hid h1
    rcases Bool.eq_false_or_eq_true (autoOk ma xs ys ss) with h2 | h2
    · have H2 := Lib.hid h2
      by_cases hm : (N : Int) = ma
      · subst hm
        have HR : Hid (betF N zs ys 3 xs = r) := by show _ = _; rw [← hr, bet_yes h2 h1]
        have HLX := Lib.hid (auto_lists h2).1
        have HLY := Lib.hid (auto_lists h2).2
        clear gv h1 h2 hp hr
        rw [hlp]
        clear hlp
        go_enter Tryz.func18, Tryz.ntmps18
        go_wp2_with fail
        refine (gradeSquare_ok N p A cap zs _ n1 n2 HP HLZ H1 (ints_al (ints_al hz _) _)).mono ?_
        rintro e w1 ⟨g, rfl, hb1, hg1, hq1⟩
        unfold gsqV
        have hb0 := below_on (below_a2 w _ _) hb1
        have pA : Blk w1 w.heap.size 26 #[.int .i64 N, .slice A1 xs.length c1, .slice A2 ys.length c2, .slice A3 ss.length c3] := ((Blk.new w _ _).alloc _).below hb1 (by simp; omega)
        have Q1 := Lib.hid hq1
        have a0 : ∀ o, (w1.alloc o).cell? ⟨w.heap.size, 0, none⟩ = some (.int .i64 N) := fun o => (pA.alloc o).cell 0
        have a1 : ∀ o, (w1.alloc o).cell? ⟨w.heap.size, 1, none⟩ = some (.slice A1 xs.length c1) := fun o => (pA.alloc o).cell 1
        have a2 : ∀ o, (w1.alloc o).cell? ⟨w.heap.size, 2, none⟩ = some (.slice A2 ys.length c2) := fun o => (pA.alloc o).cell 2
        have a3 : ∀ o, (w1.alloc o).cell? ⟨w.heap.size, 3, none⟩ = some (.slice A3 ss.length c3) := fun o => (pA.alloc o).cell 3
        clear hb1
        go_wp2_with fail
        refine (iAutomatonValid_is _ _ _ _ _ _ _ xs ys ss true _ (ints_al ((hx.below hb0).more hb0.size) _) (ints_al ((hy.below hb0).more hb0.size) _) ((hs.on hb0).al _) H2.out).mono ?_
        rintro e w3 ⟨rfl, hb3⟩
        have HB3 := Lib.hid (below_on (below_al hb0 (Nat.le_refl _) (.cells #[.func (.func 89) #[] #[], .int .i64 0, .func (.func 45) #[] #[], .int .i64 3, .int .i64 N, .slice (some ⟨g, 0, none⟩) p p] 89)) hb3.out)
        have P3 := Lib.hid ((pA.alloc (.cells #[.func (.func 89) #[] #[], .int .i64 0, .func (.func 45) #[] #[], .int .i64 3, .int .i64 N, .slice (some ⟨g, 0, none⟩) p p] 89)).below hb3.out (Blk.lt (pA.alloc _)))
        have XB := Lib.hid ((Blk.new w1 89 #[.func (.func 89) #[] #[], .int .i64 0, .func (.func 45) #[] #[], .int .i64 3, .int .i64 N, .slice (some ⟨g, 0, none⟩) p p]).below hb3.out (Blk.lt (Blk.new _ _ _)))
        have Q3 := Lib.hid (Nm.below (Blk.alloc Q1.out (.cells #[.func (.func 89) #[] #[], .int .i64 0, .func (.func 45) #[] #[], .int .i64 3, .int .i64 N, .slice (some ⟨g, 0, none⟩) p p] 89)) hb3.out)
        obtain ⟨T, hT⟩ : ∃ T, T = w1.heap.size := ⟨_, rfl⟩
        rw [← hT] at XB ⊢
        have B0 := HB3
        have KX : Hid (∀ w', Below w3.heap.size w3 w' → Ints w' w'.heap.size A1 xs) := fun w' h => (hx.below (below_on B0.out h)).more (below_on B0.out h).size
        have KY : Hid (∀ w', Below w3.heap.size w3 w' → Ints w' w'.heap.size A2 ys) := fun w' h => (hy.below (below_on B0.out h)).more (below_on B0.out h).size
        have KG : Hid (∀ w', Below w3.heap.size w3 w' → GSq w' g zs) := fun w' h => Nm.below Q3.out h
        have KT := XB
        have KA := P3
        obtain ⟨a0, a1, a2, a3⟩ := four_cells P3.out
        obtain ⟨q0, q1, q2, q3, q4, q5⟩ := six_cells XB.out
        obtain ⟨wv, hwv⟩ : ∃ wv, wv = w3 := ⟨_, rfl⟩
        have hwv0 := hwv
        subst hwv0
        clear hb0 hb3 pA hq1 hx hy hs hz hT hwv
        go_wp2_with fail
        go_loopw [34, 7] (fun i c wr => ∃ (k : Nat) (cc : Int), k ≤ xs.length ∧ i = .int .i64 k ∧ c = .int .i64 cc ∧ Hid (betF N zs ys cc (xs.drop k) = r) ∧ Hid (Below wv.heap.size wv wr)) (fun i _ _ => xs.length - (intOf i).toNat)
        case atStart => exact ⟨0, 3, Nat.zero_le _, rfl, rfl, HR.out, Below.refl _ _⟩
        case round =>
          obtain ⟨k, cc, hk, rfl, rfl, hbr, hbw⟩ := hrel
          by_cases hlt : k < xs.length
          · obtain ⟨b, off, x, rfl, hbB, hc, hd, hgx⟩ := (KX.out _ hbw.out).at_ hlt
            have hxb := HLX.out x (List.mem_of_mem_drop (i := k) (by rw [hd]; simp))
            have hbr2 := hbr.out
            rw [hd] at hbr2
            have HBR : Hid (betF N zs ys (betIn N zs x cc ys) (xs.drop (k + 1)) = r) := hbr2
            obtain ⟨X, hX⟩ : ∃ X : Nat, x = (X : Int) := ⟨x.toNat, by omega⟩
            subst hX
            have hXN : X < N := by omega
            have i0 : (0 : Int) ≤ (k : Int) := by omega
            have i1 : (k : Int) < (xs.length : Int) := by omega
            clear hbr hbr2 hd hgx hxb
            obtain ⟨a0, a1, a2, a3⟩ := four_cells (KA.out.below hbw.out (Blk.lt KA.out))
            go_wp2_with fail
            go_loopw [41, 7] (fun i c wr => ∃ (j : Nat) (cc : Int), j ≤ ys.length ∧ i = .int .i64 j ∧ c = .int .i64 cc ∧ Hid (betF N zs ys (betIn N zs (X : Int) cc (ys.drop j)) (xs.drop (k + 1)) = r) ∧ Hid (Below wv.heap.size wv wr)) (fun i _ _ => ys.length - (intOf i).toNat)
            case atStart => exact ⟨0, cc, Nat.zero_le _, rfl, rfl, HBR, hbw.out⟩
            case round =>
              obtain ⟨j, cc, hj, rfl, rfl, hbr, hbw⟩ := hrel
              by_cases hlj : j < ys.length
              · obtain ⟨b', off', y, e0, hbB', hc', hd', hgy⟩ := (KY.out _ hbw.out).at_ hlj
                subst e0
                have hyb := HLY.out y (List.mem_of_mem_drop (i := j) (by rw [hd']; simp))
                obtain ⟨Y, hY⟩ : ∃ Y : Nat, y = (Y : Int) := ⟨y.toNat, by omega⟩
                subst hY
                have hYN : Y < N := by omega
                obtain ⟨q, hqe⟩ : ∃ q, q = X * N := ⟨_, rfl⟩
                have hqN : q + N ≤ p := by
                  have : (X + 1) * N ≤ N * N := Nat.mul_le_mul_right N hXN
                  rw [Nat.succ_mul] at this
                  rw [hqe, HP.out]; exact this
                obtain ⟨z, hgz⟩ : ∃ z, zs.getD (q + Y) 0 = z := ⟨_, rfl⟩
                have hbr2 := hbr.out
                rw [hd'] at hbr2
                have HBR2 : Hid (betF N zs ys (betIn N zs (X : Int) (min cc z) (ys.drop (j + 1))) (xs.drop (k + 1)) = r) := by
                  show _ = _
                  rw [← hbr2]
                  show _ = betF N zs ys (betIn N zs (X : Int) (min cc (zs.getD ((X : Int).toNat * N + (Y : Int).toNat) 0)) (ys.drop (j + 1))) (xs.drop (k + 1))
                  rw [Int.toNat_natCast, Int.toNat_natCast, ← hqe, hgz]
                have HQ := Lib.hid hqe
                have HGZ := Lib.hid hgz
                obtain ⟨v, hv⟩ : ∃ v, min cc z = v := ⟨_, rfl⟩
                have HV := Lib.hid hv
                have j0 : (0 : Int) ≤ (j : Int) := by omega
                have j1 : (j : Int) < (ys.length : Int) := by omega
                have j2 : (0 : Int) ≤ (Y : Int) := by omega
                have j3 : (Y : Int) < (N : Int) := by omega
                obtain ⟨q0, q1, q2, q3, q4, q5⟩ := six_cells (show Blk wr T 89 #[_, _, _, _, _, _] from KT.out.below hbw.out (Blk.lt KT.out))
                have HT := Lib.hid (KT.out.below hbw.out (Blk.lt KT.out))
                clear hbr hbr2 hd' hgy hgz hyb hqe hv
                go_wp2_with fail
                refine (g_row_is g N p X q n1 n2 hXN HQ.out hqN _).mono ?_
                rintro e w5 ⟨rfl, hb5⟩
                have HB5 := Lib.hid (below_on hbw.out hb5)
                have hcz := Nm.at_ (k := q + Y) (Nm.below (KG.out _ hbw.out) hb5) (by have := HLZ.out; omega)
                rw [HGZ.out] at hcz
                clear hb5 q0 q1 q2 q3 q4 q5
                go_wp2_with fail
                refine (lesser_is cc z v _ HV.out).mono ?_
                rintro e w6 ⟨rfl, rfl⟩
                go_wp2_with fail
                go_roundw
                case rel => exact ⟨j + 1, v, by omega, by go_num, rfl, by rw [← HV.out]; exact HBR2, HB5⟩
                case measure => simp [intOf]; omega
              · have HF : Hid (betF N zs ys cc (xs.drop (k + 1)) = r) := by show _ = _; rw [← hbr.out, List.drop_of_length_le (l := ys) (i := j) (by omega)]; rfl
                go_wp2_with fail
                go_roundw
                case rel => exact ⟨k + 1, cc, by omega, by go_num, rfl, HF, hbw⟩
                case measure => simp [intOf]; omega
          · have HF := Lib.hid (show cc = r by rw [← hbr.out, List.drop_of_length_le (by omega)]; rfl)
            go_wp2_with fail
            go_ret
            exact ⟨ret_int HF.out, B0.out.trans (hbw.out.mono B0.out.size)⟩
      · have hR : r = -1 := by rw [← hr]; exact bet_no3 hm
        subst hR
        have hmb : ((N : Int) != ma) = true := by rw [bne_iff_ne]; exact hm
        clear gv h1 h2 hp hr hm
        rw [hlp]
        clear hlp
        go_enter Tryz.func18, Tryz.ntmps18
        go_wp2_with fail
        refine (gradeSquare_ok N p A cap zs _ n1 n2 HP HLZ H1 (ints_al (ints_al hz _) _)).mono ?_
        rintro e w1 ⟨g, rfl, hb1, hg1, hq1⟩
        unfold gsqV
        have hb0 := below_on (below_a2 w _ _) hb1
        have pA : Blk w1 w.heap.size 26 #[.int .i64 ma, .slice A1 xs.length c1, .slice A2 ys.length c2, .slice A3 ss.length c3] := ((Blk.new w _ _).alloc _).below hb1 (by simp; omega)
        have a0 : ∀ o, (w1.alloc o).cell? ⟨w.heap.size, 0, none⟩ = some (.int .i64 ma) := fun o => (pA.alloc o).cell 0
        have a1 : ∀ o, (w1.alloc o).cell? ⟨w.heap.size, 1, none⟩ = some (.slice A1 xs.length c1) := fun o => (pA.alloc o).cell 1
        have a2 : ∀ o, (w1.alloc o).cell? ⟨w.heap.size, 2, none⟩ = some (.slice A2 ys.length c2) := fun o => (pA.alloc o).cell 2
        have a3 : ∀ o, (w1.alloc o).cell? ⟨w.heap.size, 3, none⟩ = some (.slice A3 ss.length c3) := fun o => (pA.alloc o).cell 3
        clear hb1
        go_wp2_with fail
        refine (iAutomatonValid_is _ _ _ _ _ _ _ xs ys ss true _ (ints_al ((hx.below hb0).more hb0.size) _) (ints_al ((hy.below hb0).more hb0.size) _) ((hs.on hb0).al _) H2.out).mono ?_
        rintro e w3 ⟨rfl, hb3⟩
        have HB3 := Lib.hid (below_on (below_al hb0 (Nat.le_refl _) (.cells #[.func (.func 89) #[] #[], .int .i64 0, .func (.func 45) #[] #[], .int .i64 3, .int .i64 N, .slice (some ⟨g, 0, none⟩) p p] 89)) hb3.out)
        obtain ⟨a0, a1, a2, a3⟩ := four_cells ((pA.alloc (.cells #[.func (.func 89) #[] #[], .int .i64 0, .func (.func 45) #[] #[], .int .i64 3, .int .i64 N, .slice (some ⟨g, 0, none⟩) p p] 89)).below hb3.out (Blk.lt (pA.alloc _)))
        obtain ⟨q0, q1, q2, q3, q4, q5⟩ := six_cells ((Blk.new w1 89 #[.func (.func 89) #[] #[], .int .i64 0, .func (.func 45) #[] #[], .int .i64 3, .int .i64 N, .slice (some ⟨g, 0, none⟩) p p]).below hb3.out (Blk.lt (Blk.new _ _ _)))
        clear hb0 hb3 pA hq1 hx hy hs hz
        go_wp2_with fail
        go_ret
        exact ⟨rfl, HB3.out⟩
    · have hR : r = -1 := by rw [← hr]; exact bet_no1 h2
      subst hR
      have H2 := Lib.hid h2
      clear gv h1 h2 hp hr
      rw [hlp]
      clear hlp
      go_enter Tryz.func18, Tryz.ntmps18
      go_wp2_with fail
      refine (gradeSquare_ok N p A cap zs _ n1 n2 HP HLZ H1 (ints_al (ints_al hz _) _)).mono ?_
      rintro e w1 ⟨g, rfl, hb1, hg1, hq1⟩
      unfold gsqV
      have hb0 := below_on (below_a2 w _ _) hb1
      have pA : Blk w1 w.heap.size 26 #[.int .i64 ma, .slice A1 xs.length c1, .slice A2 ys.length c2, .slice A3 ss.length c3] := ((Blk.new w _ _).alloc _).below hb1 (by simp; omega)
      have a0 : ∀ o, (w1.alloc o).cell? ⟨w.heap.size, 0, none⟩ = some (.int .i64 ma) := fun o => (pA.alloc o).cell 0
      have a1 : ∀ o, (w1.alloc o).cell? ⟨w.heap.size, 1, none⟩ = some (.slice A1 xs.length c1) := fun o => (pA.alloc o).cell 1
      have a2 : ∀ o, (w1.alloc o).cell? ⟨w.heap.size, 2, none⟩ = some (.slice A2 ys.length c2) := fun o => (pA.alloc o).cell 2
      have a3 : ∀ o, (w1.alloc o).cell? ⟨w.heap.size, 3, none⟩ = some (.slice A3 ss.length c3) := fun o => (pA.alloc o).cell 3
      clear hb1
      go_wp2_with fail
      refine (iAutomatonValid_is _ _ _ _ _ _ _ xs ys ss false _ (ints_al ((hx.below hb0).more hb0.size) _) (ints_al ((hy.below hb0).more hb0.size) _) ((hs.on hb0).al _) H2.out).mono ?_
      rintro e w3 ⟨rfl, hb3⟩
      have HB3 := Lib.hid (below_on (below_al hb0 (Nat.le_refl _) (.cells #[.func (.func 89) #[] #[], .int .i64 0, .func (.func 45) #[] #[], .int .i64 3, .int .i64 N, .slice (some ⟨g, 0, none⟩) p p] 89)) hb3.out)
      clear hb0 hb3 pA hq1 hx hy hs hz
      go_wp2_with fail
      go_ret
      exact ⟨rfl, HB3.out⟩
  · have hR : r = -1 := by rw [← hr]; exact bet_no2 h1
    subst hR
    have H1 := Lib.hid h1
    clear h1 hr
    go_enter Tryz.func18, Tryz.ntmps18
    go_wp2_with fail
    refine (gradeSquare_no mm A cap zs _ (ints_al (ints_al hz _) _) H1.out).mono ?_
    rintro e w1 ⟨rfl, hb1⟩
    have hb0 := below_on (below_a2 w _ _) hb1
    have pA : Blk w1 w.heap.size 26 #[.int .i64 ma, .slice A1 xs.length c1, .slice A2 ys.length c2, .slice A3 ss.length c3] := ((Blk.new w _ _).alloc _).below hb1 (by simp; omega)
    have HB := Lib.hid hb0
    clear hb0 hb1 pA hx hy hs hz
    go_wp2_with fail
    go_ret
    exact ⟨rfl, below_al HB.out (Nat.le_refl _) _⟩

end Go.Proofs.YtjhaegkefagngaaGreatDoor
