/- The model's automaton at so many times the costs, none if that is not valid. Condition: as for its copy. -/
import Derived.Test.YtdfnlaclggjckaaFreeS
import Derived.Test.YtdfnlaclggjckaaScaleP
namespace Go.Proofs.Ytdfnlaclggjckaa
open Go.RowKit
set_option maxHeartbeats 4000000
set_option maxRecDepth 100000
set_option linter.unusedVariables false

def wholeA (r : Bool) (m : Int) (x1 x2 x3 : Value) : Value := if r then .agg #[.int .i64 m, x1, x2, x3] else .agg #[.int .i64 0, .slice none 0 0, .slice none 0 0, .slice none 0 0]
theorem l5Whole_any (m : Int) (A1 A2 A3 : Option Addr) (c1 c2 c3 : Nat) (xs ys : List Int) (ss : List StepD) (r : Bool) (w : World) (hx : Ints w w.heap.size A1 xs) (hy : Ints w w.heap.size A2 ys) (hs : SRow w w.heap.size A3 ss) (hr : autoOk m xs ys ss = r) :
    Calls Try.prog 46 #[.agg #[.int .i64 m, .slice A1 xs.length c1, .slice A2 ys.length c2, .slice A3 ss.length c3]] w fun e w' => e = .returned (.tuple #[wholeA r m (.slice A1 xs.length c1) (.slice A2 ys.length c2) (.slice A3 ss.length c3), .bool r]) ∧ Hid (Below w.heap.size w w') := by
  have HX := Lib.hid (ints_al (ints_al hx (.cells #[.int .i64 m, .slice A1 xs.length c1, .slice A2 ys.length c2, .slice A3 ss.length c3] 29)) (.cells #[.int .i64 0, .slice none 0 0, .slice none 0 0, .slice none 0 0] 29))
  have HY := Lib.hid (ints_al (ints_al hy (.cells #[.int .i64 m, .slice A1 xs.length c1, .slice A2 ys.length c2, .slice A3 ss.length c3] 29)) (.cells #[.int .i64 0, .slice none 0 0, .slice none 0 0, .slice none 0 0] 29))
  have HS := Lib.hid ((hs.al (.cells #[.int .i64 m, .slice A1 xs.length c1, .slice A2 ys.length c2, .slice A3 ss.length c3] 29)).al (.cells #[.int .i64 0, .slice none 0 0, .slice none 0 0, .slice none 0 0] 29))
  have HR := Lib.hid hr
  clear hx hy hs hr
  go_enter Try.func46, Try.ntmps46
  go_wp2_with fail
  refine (sAutomatonValid_is m A1 A2 A3 c1 c2 c3 xs ys ss r _ HX.out HY.out HS.out HR.out).mono ?_
  rintro e w1 ⟨rfl, hb1⟩
  have B1 := Lib.hid (below_on (below_a2 w _ _) hb1.out)
  have A1' : Hid (Blk w1 w.heap.size 29 #[.int .i64 m, .slice A1 xs.length c1, .slice A2 ys.length c2, .slice A3 ss.length c3]) := ((Blk.new w _ _).alloc _).below hb1.out (by simp; omega)
  have R1 : Hid (Blk w1 (w.heap.size + 1) 29 #[.int .i64 0, .slice none 0 0, .slice none 0 0, .slice none 0 0]) := (blk_new (by simp)).below hb1.out (by simp)
  obtain ⟨R, hR⟩ : ∃ R, R = w.heap.size + 1 := ⟨_, rfl⟩
  rw [← hR] at R1
  rw [← hR]
  have hwR : w.heap.size ≤ R := by omega
  have hw1 := B1.out.size
  clear hR hb1 HX HY HS
  obtain ⟨p0, p1, p2, p3⟩ := four_cells A1'.out
  obtain ⟨d0, d1, d2, d3⟩ := four_cells R1.out
  obtain ⟨f0, f1, f2, f3⟩ := four_frozen R1.out
  cases r
  · go_wp2_with fail
    have HF := four_set R1.out (.int .i64 0) (.slice none 0 0) (.slice none 0 0) (.slice none 0 0)
    refine bodyPost_ret (results_2 rfl (Gives.row (g := R) rfl HF Try.underlying29 rfl (by kernel_rfl)) (.tmp rfl)) rfl ?_
    exact ⟨rfl, B1.out.grown (four_grow _ _ _ _ _ _) hw1 (fun j hj => by cases hj; exact hwR)⟩
  · go_wp2_with fail
    have HF := four_set R1.out (.int .i64 m) (.slice A1 xs.length c1) (.slice A2 ys.length c2) (.slice A3 ss.length c3)
    refine bodyPost_ret (results_2 rfl (Gives.row (g := R) rfl HF Try.underlying29 rfl (by kernel_rfl)) (.tmp rfl)) rfl ?_
    exact ⟨rfl, B1.out.grown (four_grow _ _ _ _ _ _) hw1 (fun j hj => by cases hj; exact hwR)⟩
theorem sScale_any (z : Int) (m : Int) (a1 a2 a3 : Addr) (c1 c2 c3 : Nat) (xs ys : List Int) (ss : List StepD) (w : World) (hx : Ints w w.heap.size (some a1) xs) (hy : Ints w w.heap.size (some a2) ys) (hs : SRow w w.heap.size (some a3) ss) (lx : xs.length ≤ 1048576) (ly : ys.length ≤ 1048576) (ls : ss.length ≤ 1048576) :
    Calls Try.prog 24 #[.agg #[.int .i64 m, .slice (some a1) xs.length c1, .slice (some a2) ys.length c2, .slice (some a3) ss.length c3], .int .i64 z] w fun e w' => SEnd (scaleV z m xs ys ss) w e w' := by
  obtain ⟨j0, kj, kz0, kz1, kz2⟩ := info_step'
  have Y0 := Lib.hid kz0
  have Y1 := Lib.hid kz1
  have Y2 := Lib.hid kz2
  have YI := Lib.hid kj
  obtain ⟨r, hr⟩ : ∃ r, autoOk m xs ys ss = r := ⟨_, rfl⟩
  have HR := Lib.hid hr
  have HX := Lib.hid hx
  have HY := Lib.hid hy
  have HS := Lib.hid hs
  clear kz0 kz1 kz2 kj hx hy hs
  obtain ⟨rv, hrv⟩ : ∃ rv, rv = scaleV z m xs ys ss := ⟨_, rfl⟩
  have HNO : Hid (r = false → rv = noneV) := fun h => by rw [hrv]; unfold scaleV; rw [if_neg (fun h2 => by rw [hr, h] at h2; cases h2.1)]
  have HNZ : Hid (z < 0 ∨ 3 < z → rv = noneV) := fun h => by rw [hrv]; unfold scaleV; rw [if_neg (fun h2 => by omega)]
  have HYES : Hid (r = true → 0 ≤ z → z ≤ 3 → rv = chkV m xs ys (scaleL z ss)) := fun h0 h1 h2 => by rw [hrv]; unfold scaleV; rw [if_pos ⟨by rw [hr, h0], h1, h2⟩]
  have HCO : Hid (r = true → ∀ s ∈ ss, 0 ≤ s.co ∧ s.co ≤ 3) := fun h s hs => by
    obtain ⟨n, h1, h2, h3, h4, h5, h6, h7⟩ := auto_in (hr.trans h)
    subst h1
    obtain ⟨_, _, c, _, _, _, _, hc, hc3, _⟩ := stepOk_in (h7 s hs)
    omega
  rw [← hrv]
  clear hr hrv
  go_enter Try.func24, Try.ntmps24
  go_upto_region 1 with fail
  obtain ⟨A, hA⟩ : ∃ A, A = w.heap.size := ⟨_, rfl⟩
  obtain ⟨R, hR⟩ : ∃ R, R = w.heap.size + 1 := ⟨_, rfl⟩
  obtain ⟨w1, hw1⟩ : ∃ w1, w1 = (w.alloc (.cells #[.int .i64 m, .slice (some a1) xs.length c1, .slice (some a2) ys.length c2, .slice (some a3) ss.length c3] 29)).alloc (.cells #[.int .i64 0, .slice none 0 0, .slice none 0 0, .slice none 0 0] 29) := ⟨_, rfl⟩
  have A1 : Hid (Blk w1 A 29 #[.int .i64 m, .slice (some a1) xs.length c1, .slice (some a2) ys.length c2, .slice (some a3) ss.length c3]) := by rw [hw1, hA]; exact (Blk.new _ _ _).alloc _
  have R1 : Hid (Blk w1 R 29 #[.int .i64 0, .slice none 0 0, .slice none 0 0, .slice none 0 0]) := by rw [hw1, hR]; exact blk_new (by simp)
  have B1 : Hid (Below w.heap.size w w1) := by rw [hw1]; exact below_a2 w _ _
  rw [← hw1, ← hR, ← hA]
  have hs1 : w1.heap.size = R + 1 := by rw [hw1, hR]; simp
  have hAR : A < R := by omega
  have hwA : w.heap.size ≤ A := by omega
  have hR1 : R < w1.heap.size := by omega
  clear hw1 hA hR hs1
  obtain ⟨p0, p1, p2, p3⟩ := four_cells A1.out
  go_wp2_with fail
  refine (sOwn_any m a1 a2 a3 c1 c2 c3 xs ys ss _ ((HX.out.below B1.out).more B1.out.size) ((HY.out.below B1.out).more B1.out.size) ((HS.out.below B1.out).more B1.out.size) lx ly ls).mono ?_
  rintro e w2 ⟨x1, x2, x3, rfl, O2, hb2⟩
  have A2 := Lib.hid (blk_b A1.out hb2.out)
  have R2 := Lib.hid (blk_b R1.out hb2.out)
  have B2 := Lib.hid (below_on B1.out hb2.out)
  have RD2 := Lib.hid O2.out.read
  have L2 : Hid (∀ j, x1.ownBlock = some j ∨ x2.ownBlock = some j ∨ x3.ownBlock = some j → R < j ∧ j < w2.heap.size) := fun j hj => by
    obtain ⟨h1, h2, h3, _⟩ := O2.out
    rcases hj with hj | hj | hj
    · have := h1.lt j hj; omega
    · have := h2.lt j hj; omega
    · have := h3.lt j hj; omega
  obtain ⟨E1, k1, e1, _, _⟩ := own_ints O2.out.1 (by unfold maxLen; omega)
  obtain ⟨E2, k2, e2, _, _⟩ := own_ints O2.out.2.1 (by unfold maxLen; omega)
  obtain ⟨E3, k3, e3, _⟩ := own_read4 O2.out.2.2.1 rfl (by omega) HS.out.2.1
  subst e1
  subst e2
  subst e3
  have hA2 := Blk.lt A2.out
  clear p0 p1 p2 p3 A1 R1 B1 hb2
  obtain ⟨f0, f1, f2, f3⟩ := four_frozen A2.out
  obtain ⟨p0, p1, p2, p3⟩ := four_cells A2.out
  go_upto_region 2 with fail
  obtain ⟨w3, hw3⟩ : ∃ w3, w3 = (((w2.setCell ⟨A, 0, none⟩ (.int .i64 m)).setCell ⟨A, 1, none⟩ (.slice E1 xs.length k1)).setCell ⟨A, 2, none⟩ (.slice E2 ys.length k2)).setCell ⟨A, 3, none⟩ (.slice E3 ss.length k3) := ⟨_, rfl⟩
  have hg3 : w2.grownBy w3 (some A) := by rw [hw3]; exact four_grow _ _ _ _ _ _
  have A3 : Hid (Blk w3 A 29 #[.int .i64 m, .slice E1 xs.length k1, .slice E2 ys.length k2, .slice E3 ss.length k3]) := by rw [hw3]; exact four_set A2.out _ _ _ _
  rw [← hw3]
  clear hw3
  have R3 := Lib.hid (R2.out.stay hg3 (by intro e; cases e; omega))
  have B3 := Lib.hid (B2.out.grown hg3 B2.out.size (fun j hj => by cases hj; exact hwA))
  have O3 : Hid (AOwn w3 w1.heap.size (.slice E1 xs.length k1) (.slice E2 ys.length k2) (.slice E3 ss.length k3) xs ys ss) := by
    obtain ⟨h1, h2, h3, h4⟩ := O2.out
    exact ⟨h1.kept hg3 (own_ne (fun j hj e => by cases e; have := L2.out _ (Or.inl hj); omega)), h2.kept hg3 (own_ne (fun j hj e => by cases e; have := L2.out _ (Or.inr (Or.inl hj)); omega)), h3.kept hg3 (own_ne (fun j hj e => by cases e; have := L2.out _ (Or.inr (Or.inr hj)); omega)), h4⟩
  clear p0 p1 p2 p3 f0 f1 f2 f3 A2 R2 B2 O2 RD2 L2 hg3 hA2
  obtain ⟨p0, p1, p2, p3⟩ := four_cells A3.out
  obtain ⟨⟨_, _, e1, i1⟩, ⟨_, _, e2, i2⟩, ⟨_, _, e3, i3⟩⟩ := O3.out.read
  cases e1
  cases e2
  cases e3
  have I1 := Lib.hid i1
  have I2 := Lib.hid i2
  have I3 := Lib.hid i3
  clear i1 i2 i3
  go_wp2_with fail
  refine (sAutomatonValid_is m E1 E2 E3 k1 k2 k3 xs ys ss r _ I1.out I2.out I3.out HR.out).mono ?_
  rintro e w4 ⟨rfl, hb4⟩
  have A4 := Lib.hid (blk_b A3.out hb4.out)
  have R4 := Lib.hid (blk_b R3.out hb4.out)
  have B4 := Lib.hid (below_on B3.out hb4.out)
  have O4 := Lib.hid (O3.out.under hb4.out)
  clear p0 p1 p2 p3 A3 R3 B3 O3 I1 I2 I3 hb4
  have hA4 := Blk.lt A4.out
  have hR4 := Blk.lt R4.out
  have hwR4 := B4.out.size
  cases r
  · obtain ⟨f0, f1, f2, f3⟩ := four_frozen R4.out
    obtain ⟨r0, r1, r2, r3⟩ := four_cells R4.out
    go_wp2_with fail
    have HF := four_set R4.out (.int .i64 0) (.slice none 0 0) (.slice none 0 0) (.slice none 0 0)
    have HG := four_grow w4 R (.int .i64 0) (.slice none 0 0) (.slice none 0 0) (.slice none 0 0)
    refine bodyPost_ret (results_2 rfl (Gives.row (g := R) rfl HF Try.underlying29 rfl (by kernel_rfl)) (.tmp rfl)) rfl ?_
    rw [HNO.out (by first | rfl | trivial)]
    exact ⟨_, _, _, rfl, ⟨⟨none, 0, rfl, irow_nil _ _ _⟩, ⟨none, 0, rfl, irow_nil _ _ _⟩, ⟨none, 0, rfl, SRow.nil _ _ _⟩⟩, B4.out.grown HG hwR4 (fun j hj => by cases hj; omega)⟩
  by_cases hz : z < 0 ∨ 3 < z
  · obtain ⟨f0, f1, f2, f3⟩ := four_frozen R4.out
    obtain ⟨r0, r1, r2, r3⟩ := four_cells R4.out
    go_wp2_with fail
    refine (l1In_is z 0 3 false _ (by simp; omega)).mono ?_
    rintro e w4' ⟨rfl, rfl⟩
    go_wp2_with fail
    have HF := four_set R4.out (.int .i64 0) (.slice none 0 0) (.slice none 0 0) (.slice none 0 0)
    have HG := four_grow w4 R (.int .i64 0) (.slice none 0 0) (.slice none 0 0) (.slice none 0 0)
    refine bodyPost_ret (results_2 rfl (Gives.row (g := R) rfl HF Try.underlying29 rfl (by kernel_rfl)) (.tmp rfl)) rfl ?_
    rw [HNZ.out hz]
    exact ⟨_, _, _, rfl, ⟨⟨none, 0, rfl, irow_nil _ _ _⟩, ⟨none, 0, rfl, irow_nil _ _ _⟩, ⟨none, 0, rfl, SRow.nil _ _ _⟩⟩, B4.out.grown HG hwR4 (fun j hj => by cases hj; omega)⟩
  · have hz0 : 0 ≤ z := by omega
    have hz3 : z ≤ 3 := by omega
    have HRV := Lib.hid (HYES.out (by first | rfl | trivial) hz0 hz3)
    have HC3 := Lib.hid (HCO.out (by first | rfl | trivial))
    clear HNO HNZ HYES HCO
    go_wp2_with fail
    refine (l1In_is z 0 3 true _ (by simp; omega)).mono ?_
    rintro e w4' ⟨rfl, rfl⟩
    clear hz
    obtain ⟨p0, p1, p2, p3⟩ := four_cells A4.out
    go_upto_region 5 with fail
    obtain ⟨N, hN⟩ : ∃ N, N = w4.heap.size := ⟨_, rfl⟩
    obtain ⟨V, hV⟩ : ∃ V, V = w4.heap.size + 1 := ⟨_, rfl⟩
    rw [← hV, ← hN]
    obtain ⟨w5, hw5⟩ : ∃ w5, w5 = (w4.alloc (.cells #[] 73)).alloc (.cells #[.int .i64 m, .slice E1 xs.length k1, .slice E2 ys.length k2, .slice (some ⟨N, 0, none⟩) 0 0] 29) := ⟨_, rfl⟩
    have hb5 : Below w4.heap.size w4 w5 := by rw [hw5]; exact below_a2 w4 _ _
    have V5 : Hid (Blk w5 V 29 #[.int .i64 m, .slice E1 xs.length k1, .slice E2 ys.length k2, .slice (some ⟨N, 0, none⟩) 0 0]) := by rw [hw5, hV]; exact blk_new (by simp)
    have N5 : Hid (w5.ownsRow N 73 4 (.slice (some ⟨N, 0, none⟩) 0 0) 0 (flatS [])) := by rw [hw5, hN]; exact World.ownsRow.alloc (World.ownsRow_made w4 #[] 0 (Nat.le_refl _) (by unfold maxLen; omega) rfl) _
    rw [← hw5]
    have A5 := Lib.hid (blk_b A4.out hb5)
    have R5 := Lib.hid (blk_b R4.out hb5)
    have B5 := Lib.hid (below_on B4.out hb5)
    have O5 := Lib.hid (O4.out.under hb5)
    have L5 : Hid (∀ j, (Value.slice E1 xs.length k1).ownBlock = some j ∨ (Value.slice E2 ys.length k2).ownBlock = some j ∨ (Value.slice E3 ss.length k3).ownBlock = some j → R < j ∧ j < N) := fun j hj => by
      obtain ⟨h1, h2, h3, _⟩ := O4.out
      rcases hj with hj | hj | hj
      · have := h1.lt j hj; omega
      · have := h2.lt j hj; omega
      · have := h3.lt j hj; omega
    have hRN : R < N := by omega
    have hNV : N < V := by omega
    have hwN : w.heap.size ≤ N := by omega
    have hN5 : N ≤ w5.heap.size := by rw [hN]; exact hb5.size
    obtain ⟨⟨_, _, e1, i1⟩, ⟨_, _, e2, i2⟩, ⟨_, _, e3, i3⟩⟩ := O4.out.read
    cases e1
    cases e2
    cases e3
    have S5 : Hid (SRow w5 N E3 ss) := by rw [hN]; exact i3.below hb5
    clear i1 i2 i3 hw5 hb5 p0 p1 p2 p3 A4 R4 B4 O4 hA4 hR4 hwR4 hN hV
    obtain ⟨p0, p1, p2, p3⟩ := four_cells A5.out
    go_wp2_with fail
    clear p0 p1 p2 p3
    go_loopw [31] (fun i wr => ∃ (k : Nat) (E : Option Addr) (cap : Nat) (us : List StepD), k ≤ ss.length ∧ i = .int .i64 k ∧ Hid (us = scaleL z (ss.take k)) ∧ Hid (us.length = k) ∧ Hid (Blk wr V 29 #[.int .i64 m, .slice E1 xs.length k1, .slice E2 ys.length k2, .slice E k cap]) ∧ Hid (wr.ownsRow N 73 4 (.slice E k cap) k (flatS us)) ∧ Hid (Below N w5 wr)) (fun i _ => ss.length - (intOf i).toNat)
    case atStart => exact ⟨0, some ⟨N, 0, none⟩, 0, [], by omega, rfl, rfl, rfl, V5, N5, Below.refl _ _⟩
    case round =>
      obtain ⟨k, E, cap, us, hk, rfl, hus, hul, hv, hown, hbw⟩ := hrel
      have hVw := Blk.lt hv.out
      have hNw : N ≤ wr.heap.size := Nat.le_trans hN5 hbw.out.size
      by_cases hlt : k < ss.length
      · obtain ⟨b, off, s, e, hbN, hst, hsl, _, hsg⟩ := (S5.out.below hbw.out).at_ hlt
        obtain ⟨q0, q1, q2, q3⟩ := hst
        subst e
        have hsm : s ∈ ss := by rw [← hsg, List.getD_eq_getElem?_getD, List.getElem?_eq_getElem hlt]; simp
        have hc := HC3.out s hsm
        have hcz : 0 ≤ s.co * z := Int.mul_nonneg hc.1 hz0
        have hc9 : s.co * z ≤ 9 := Int.le_trans (Int.mul_le_mul_of_nonneg_right hc.2 hz0) (by omega)
        have hwz : IntKind.i64.wrap (s.co * z) = s.co * z := wrap_small (s.co * z) hcz (by omega)
        have HU : Hid (us ++ [timesS z s] = scaleL z (ss.take (k + 1))) := by show _ = _; rw [take_snoc_s hlt hsg, scaleL_snoc, hus.out]
        have HL6 : Hid ((us ++ [timesS z s]).length = k + 1) := by show _ = _; rw [List.length_append, hul.out]; rfl
        have hk0 : (0 : Int) ≤ (k : Int) := by omega
        have hk1 : (k : Int) < (ss.length : Int) := by omega
        clear hsg hsm hc hcz hc9 hus hul
        go_upto_region 9 with fail
        clear hwz q0 q1 q2 q3
        obtain ⟨p0, p1, p2, p3⟩ := four_cells hv.out
        go_wp2_with (first
          | (at_builtin; refine wpList_append_lies _ rfl _ _ 27 rfl N 73 j0 (.agg #[.int .i64 0, .string ByteArray.empty, .int .i64 0, .int .i64 0]) 4 40 Try.underlying27 YI.out Y0.out Y1.out Y2.out rfl (by decide) _ _ _ rfl (World.ownsRow.alloc (World.ownsRow.alloc hown.out _) _) _ 1 1 (stepC (timesS z s)) rfl rfl ?g1 ?g2 (by decide) ?g3 ?g4 ?g5 _ rfl ?_)
          | fail)
        case g1 => exact lit_news2 wr _ #[.int .i64 s.fr, .string s.le, .int .i64 s.to_, .int .i64 (s.co * z)] _
        case g2 => intro u hu; simp [stepC] at hu; rcases hu with rfl | rfl | rfl | rfl <;> rfl
        case g3 => unfold maxLen; omega
        case g4 => omega
        case g5 => simp; omega
        intro g cap' w6 hown' hgrow hat hlt'
        have hb6 : Below N w5 w6 := ((hbw.out.alloc (by omega) _).alloc (by simp; omega) _).grown hgrow (by simp; omega) (fun j hj => (hown.out.lt j hj).1)
        have V6 : Hid (Blk w6 V 29 #[.int .i64 m, .slice E1 xs.length k1, .slice E2 ys.length k2, .slice E k cap]) := Blk.stay ((hv.out.alloc _).alloc _) hgrow (own_ne_blk hown.out hv.out (by decide))
        have hVg : ¬ V = g := fun e => by
          subst e
          exact own_ne_blk hown' V6.out (by decide) rfl
        have B6 := Lib.hid (hb6.setCell (p := ⟨V, 3, none⟩) (show N ≤ V by omega) (.slice (some ⟨g, 0, none⟩) (k + 1) cap'))
        have O6 := Lib.hid (hown'.kept (grow_set w6 V 3 (.slice (some ⟨g, 0, none⟩) (k + 1) cap')) (own_ne (fun j hj e => by cases e; cases hj; exact hVg rfl)))
        rw [← flatS_snoc] at O6
        have V7 := Lib.hid (V6.out.set_ 3 (.slice (some ⟨g, 0, none⟩) (k + 1) cap'))
        clear p0 p1 p2 p3 hown' hgrow hat hlt' hown hbw hv hb6 hVg
        obtain ⟨p0, p1, p2, p3⟩ := four_cells V6.out
        obtain ⟨f0, f1, f2, f3⟩ := four_frozen V6.out
        go_wp2_with fail
        go_roundw
        case rel => exact ⟨k + 1, _, cap', us ++ [timesS z s], by omega, by go_num, HU, HL6, V7, O6, B6⟩
        case measure => simp [intOf]; omega
      · have hkn : k = ss.length := by omega
        have HE : Hid (us = scaleL z ss) := by show _ = _; rw [hus.out, hkn, List.take_length]
        have Rr : Hid (Blk wr R 29 #[.int .i64 0, .slice none 0 0, .slice none 0 0, .slice none 0 0]) := Blk.below R5.out hbw.out hRN
        obtain ⟨o1, o2, o3, o4⟩ := O5.out
        have P1 := own_low o1 hbw.out (fun j hj => (L5.out j (Or.inl hj)).2)
        have P2 := own_low o2 hbw.out (fun j hj => (L5.out j (Or.inr (Or.inl hj))).2)
        have HSZ : ∀ s ∈ us, s.le.size ≤ 9223372036854775807 := fun s hs => by
          rw [HE.out] at hs
          unfold scaleL at hs
          rw [List.mem_map] at hs
          obtain ⟨x, hx, rfl⟩ := hs
          exact HS.out.2.1 x hx
        obtain ⟨_, _, e1, _, i1⟩ := own_ints P1 (by unfold maxLen; omega)
        obtain ⟨_, _, e2, _, i2⟩ := own_ints P2 (by unfold maxLen; omega)
        cases e1
        cases e2
        obtain ⟨_, _, e3, i3⟩ := own_read4 hown.out hul.out (by omega) HSZ
        have hul2 := hul.out
        have e3' : Value.slice E k cap = .slice E us.length cap := by rw [hul2]
        obtain ⟨q, hq⟩ : ∃ q, autoOk m xs ys us = q := ⟨_, rfl⟩
        have HQ := Lib.hid hq
        have P1' := Lib.hid P1
        have P2' := Lib.hid P2
        have P3' := Lib.hid hown.out
        have I1 := Lib.hid i1
        have I2 := Lib.hid i2
        have I3 : Hid (SRow wr wr.heap.size E us) := by rw [e3'] at e3; cases e3; exact Lib.hid i3
        have HSZ' := Lib.hid HSZ
        obtain ⟨p0, p1, p2, p3⟩ := four_cells hv.out
        have hk1 : ¬ (k : Int) < (ss.length : Int) := by omega
        clear o1 o2 o3 o4 P1 P2 i1 i2 i3 e3 e3' hul2 hq HSZ hkn
        go_wp2_with fail
        have hW := l5Whole_any m E1 E2 E k1 k2 cap xs ys us q wr I1.out I2.out I3.out HQ.out
        rw [hul.out] at hW
        refine hW.mono ?_
        rintro e w6 ⟨rfl, hb6⟩
        have R6 := Lib.hid (blk_b Rr.out hb6.out)
        have Q1 := Lib.hid (own_under P1'.out hb6.out)
        have Q2 := Lib.hid (own_under P2'.out hb6.out)
        have Q3 := Lib.hid (own4_under P3'.out hb6.out)
        have B6 := Lib.hid (below_on (B5.out.trans (hbw.out.mono hwN)) hb6.out)
        have hw6 := B6.out.size
        have hRw6 := Blk.lt R6.out
        clear hW p0 p1 p2 p3 hb6 P1' P2' P3' I1 I2 I3 hv Rr
        obtain ⟨f0, f1, f2, f3⟩ := four_frozen R6.out
        obtain ⟨r0, r1, r2, r3⟩ := four_cells R6.out
        have HRV2 : Hid (rv = chkV m xs ys us) := by rw [HE.out]; exact HRV
        cases q
        · unfold wholeA
          go_wp2_with fail
          have HF := four_set R6.out (.int .i64 0) (.slice none 0 0) (.slice none 0 0) (.slice none 0 0)
          have HG := four_grow w6 R (.int .i64 0) (.slice none 0 0) (.slice none 0 0) (.slice none 0 0)
          refine bodyPost_ret (results_2 rfl (Gives.row (g := R) rfl HF Try.underlying29 rfl (by kernel_rfl)) (.tmp rfl)) rfl ?_
          have e0 : rv = noneV := by rw [HRV2.out]; unfold chkV; rw [if_neg (by rw [HQ.out]; decide)]
          rw [e0]
          exact ⟨_, _, _, rfl, ⟨⟨none, 0, rfl, irow_nil _ _ _⟩, ⟨none, 0, rfl, irow_nil _ _ _⟩, ⟨none, 0, rfl, SRow.nil _ _ _⟩⟩, B6.out.grown HG hw6 (fun j hj => by cases hj; omega)⟩
        · unfold wholeA
          go_wp2_with fail
          have HF := four_set R6.out (.int .i64 m) (.slice E1 xs.length k1) (.slice E2 ys.length k2) (.slice E k cap)
          have HG := four_grow w6 R (.int .i64 m) (.slice E1 xs.length k1) (.slice E2 ys.length k2) (.slice E k cap)
          refine bodyPost_ret (results_2 rfl (Gives.row (g := R) rfl HF Try.underlying29 rfl (by kernel_rfl)) (.tmp rfl)) rfl ?_
          have e0 : rv = ⟨m, xs, ys, us, true⟩ := by rw [HRV2.out]; unfold chkV; rw [if_pos HQ.out]
          rw [e0]
          have P1 := Q1.out.kept HG (own_ne (fun j hj e => by cases e; have := (L5.out _ (Or.inl hj)).1; omega))
          have P2 := Q2.out.kept HG (own_ne (fun j hj e => by cases e; have := (L5.out _ (Or.inr (Or.inl hj))).1; omega))
          have P3 := Q3.out.kept HG (own_ne (fun j hj e => by cases e; have := (Q3.out.lt _ hj).1; omega))
          obtain ⟨_, _, e1, _, i1⟩ := own_ints P1 (by unfold maxLen; omega)
          obtain ⟨_, _, e2, _, i2⟩ := own_ints P2 (by unfold maxLen; omega)
          cases e1
          cases e2
          exact ⟨_, _, _, rfl, ⟨⟨_, _, rfl, i1⟩, ⟨_, _, rfl, i2⟩, own_read4 P3 hul.out (by omega) HSZ'.out⟩, B6.out.grown HG hw6 (fun j hj => by cases hj; omega)⟩
end Go.Proofs.Ytdfnlaclggjckaa
