/- The model's automaton whose steps go back. Condition: as for its copy. -/
import Derived.Test.YtdfnlaclggjckaaFreeS
import Derived.Test.YtdfnlaclggjckaaCostP
import Derived.Test.YtdfnlaclggjckaaPutS
namespace Go.Proofs.Ytdfnlaclggjckaa
open Go.RowKit
set_option maxHeartbeats 4000000
set_option maxRecDepth 100000
set_option linter.unusedVariables false

theorem sw_mv {s : StepD} (h : mvOk s) : mvOk (swS s) := ⟨h.2.2.1, h.2.2.2.1, h.1, h.2.1, h.2.2.2.2⟩
theorem sw_all {ss : List StepD} (h : ∀ s ∈ ss, mvOk s) : ∀ s ∈ ss.map swS, mvOk s := fun s hs => by
  rw [List.mem_map] at hs
  obtain ⟨x, hx, rfl⟩ := hs
  exact sw_mv (h x hx)
theorem sw_pw {ss : List StepD} (hm : ∀ s ∈ ss, mvOk s) (hp : ss.Pairwise (fun a b => code a < code b)) : (ss.map swS).Pairwise (fun x y => ¬ code x = code y) := by
  rw [List.pairwise_map]
  refine hp.imp_of_mem (fun {a b} ha hb hab e => ?_)
  obtain ⟨e1, e2, e3⟩ := code_inj (sw_mv (hm a ha)) (sw_mv (hm b hb)) e
  have := code_eq (s := a) (t := b) e3 (by rw [show a.le = b.le from e2]) e1
  omega
theorem map_take {ss : List StepD} {k : Nat} {s : StepD} (h : s ∈ (ss.take k).map swS) : s ∈ ss.map swS := by
  rw [List.mem_map] at h ⊢
  obtain ⟨x, hx, e⟩ := h
  exact ⟨x, List.mem_of_mem_take hx, e⟩
theorem pw_take {ss : List StepD} {k : Nat} (h : (ss.map swS).Pairwise (fun x y => ¬ code x = code y)) : ((ss.take k).map swS).Pairwise (fun x y => ¬ code x = code y) := by
  rw [List.map_take]
  exact h.sublist (List.take_sublist _ _)
theorem putL_length {s : StepD} : ∀ {l : List StepD}, (∀ t ∈ l, ¬ code t = code s) → (∀ t ∈ l, mvOk t) → mvOk s → (putL l s).length = l.length + 1
  | [], _, _, _ => rfl
  | t :: ts, hn, hm, hs => by
    have ih := putL_length (l := ts) (fun u hu => hn u (List.mem_cons_of_mem _ hu)) (fun u hu => hm u (List.mem_cons_of_mem _ hu)) hs
    have h1 := hn t (by simp)
    unfold putL
    rw [bef_code (hm t (by simp)) hs, bef_code hs (hm t (by simp))]
    by_cases h2 : code t < code s
    · rw [if_pos (by simpa using h2)]; simp [ih]
    · rw [if_neg (by simpa using h2), if_pos (by simp; omega)]; simp
theorem sRev_any (m : Int) (a1 a2 a3 : Addr) (c1 c2 c3 : Nat) (xs ys : List Int) (ss : List StepD) (w : World) (hx : Ints w w.heap.size (some a1) xs) (hy : Ints w w.heap.size (some a2) ys) (hs : SRow w w.heap.size (some a3) ss) (lx : xs.length ≤ 1048576) (ly : ys.length ≤ 1048576) (ls : ss.length ≤ 1048576) :
    Calls Try.prog 37 #[.agg #[.int .i64 m, .slice (some a1) xs.length c1, .slice (some a2) ys.length c2, .slice (some a3) ss.length c3]] w fun e w' => SEnd (revV m xs ys ss) w e w' := by
  obtain ⟨j0, kj, kz0, kz1, kz2⟩ := info_step'
  have Y0 := Lib.hid kz0
  have Y1 := Lib.hid kz1
  have Y2 := Lib.hid kz2
  have YI := Lib.hid kj
  obtain ⟨r, hr⟩ : ∃ r, autoOk m xs ys ss = r := ⟨_, rfl⟩
  have HR := Lib.hid hr
  have HX := Lib.hid hx
  have HY := Lib.hid hy
  have HS := Lib.hid hs
  clear kz0 kz1 kz2 kj hx hy hs
  have HLE : Hid (r = true → ss.length ≤ 24) := fun h => by obtain ⟨_, _, _, _, _, _, h2, _⟩ := auto_in (hr.trans h); exact h2
  have HMV : Hid (r = true → (∀ s ∈ ss, mvOk s) ∧ ss.Pairwise (fun a b => code a < code b)) := fun h => ⟨auto_mv (hr.trans h), auto_pw (hr.trans h)⟩
  unfold revV
  rw [hr]
  clear hr
  go_enter Try.func37, Try.ntmps37
  go_upto_region 1 with fail
  obtain ⟨A, hA⟩ : ∃ A, A = w.heap.size := ⟨_, rfl⟩
  obtain ⟨R, hR⟩ : ∃ R, R = w.heap.size + 1 := ⟨_, rfl⟩
  obtain ⟨w1, hw1⟩ : ∃ w1, w1 = (w.alloc (.cells #[.int .i64 m, .slice (some a1) xs.length c1, .slice (some a2) ys.length c2, .slice (some a3) ss.length c3] 29)).alloc (.cells #[.int .i64 0, .slice none 0 0, .slice none 0 0, .slice none 0 0] 29) := ⟨_, rfl⟩
  have A1 : Hid (Blk w1 A 29 #[.int .i64 m, .slice (some a1) xs.length c1, .slice (some a2) ys.length c2, .slice (some a3) ss.length c3]) := by rw [hw1, hA]; exact (Blk.new _ _ _).alloc _
  have R1 : Hid (Blk w1 R 29 #[.int .i64 0, .slice none 0 0, .slice none 0 0, .slice none 0 0]) := by rw [hw1, hR]; exact blk_new (by simp)
  have B1 : Hid (Below w.heap.size w w1) := by rw [hw1]; exact below_a2 w _ _
  rw [← hw1, ← hR, ← hA]
  have hs1 : w1.heap.size = R + 1 := by rw [hw1, hR]; simp
  have hAR : A < R := by omega
  have hwA : w.heap.size ≤ A := by omega
  have hR1 : R < w1.heap.size := by omega
  clear hw1 hA hR hs1
  obtain ⟨p0, p1, p2, p3⟩ := four_cells A1.out
  go_wp2_with fail
  refine (sOwn_any m a1 a2 a3 c1 c2 c3 xs ys ss _ ((HX.out.below B1.out).more B1.out.size) ((HY.out.below B1.out).more B1.out.size) ((HS.out.below B1.out).more B1.out.size) lx ly ls).mono ?_
  rintro e w2 ⟨x1, x2, x3, rfl, O2, hb2⟩
  have A2 := Lib.hid (blk_b A1.out hb2.out)
  have R2 := Lib.hid (blk_b R1.out hb2.out)
  have B2 := Lib.hid (below_on B1.out hb2.out)
  have RD2 := Lib.hid O2.out.read
  have L2 : Hid (∀ j, x1.ownBlock = some j ∨ x2.ownBlock = some j ∨ x3.ownBlock = some j → R < j ∧ j < w2.heap.size) := fun j hj => by
    obtain ⟨h1, h2, h3, _⟩ := O2.out
    rcases hj with hj | hj | hj
    · have := h1.lt j hj; omega
    · have := h2.lt j hj; omega
    · have := h3.lt j hj; omega
  obtain ⟨E1, k1, e1, _, _⟩ := own_ints O2.out.1 (by unfold maxLen; omega)
  obtain ⟨E2, k2, e2, _, _⟩ := own_ints O2.out.2.1 (by unfold maxLen; omega)
  obtain ⟨E3, k3, e3, _⟩ := own_read4 O2.out.2.2.1 rfl (by omega) HS.out.2.1
  subst e1
  subst e2
  subst e3
  have hA2 := Blk.lt A2.out
  clear p0 p1 p2 p3 A1 R1 B1 hb2
  obtain ⟨f0, f1, f2, f3⟩ := four_frozen A2.out
  obtain ⟨p0, p1, p2, p3⟩ := four_cells A2.out
  go_upto_region 2 with fail
  obtain ⟨w3, hw3⟩ : ∃ w3, w3 = (((w2.setCell ⟨A, 0, none⟩ (.int .i64 m)).setCell ⟨A, 1, none⟩ (.slice E1 xs.length k1)).setCell ⟨A, 2, none⟩ (.slice E2 ys.length k2)).setCell ⟨A, 3, none⟩ (.slice E3 ss.length k3) := ⟨_, rfl⟩
  have hg3 : w2.grownBy w3 (some A) := by rw [hw3]; exact four_grow _ _ _ _ _ _
  have A3 : Hid (Blk w3 A 29 #[.int .i64 m, .slice E1 xs.length k1, .slice E2 ys.length k2, .slice E3 ss.length k3]) := by rw [hw3]; exact four_set A2.out _ _ _ _
  rw [← hw3]
  clear hw3
  have R3 := Lib.hid (R2.out.stay hg3 (by intro e; cases e; omega))
  have B3 := Lib.hid (B2.out.grown hg3 B2.out.size (fun j hj => by cases hj; exact hwA))
  have O3 : Hid (AOwn w3 w1.heap.size (.slice E1 xs.length k1) (.slice E2 ys.length k2) (.slice E3 ss.length k3) xs ys ss) := by
    obtain ⟨h1, h2, h3, h4⟩ := O2.out
    exact ⟨h1.kept hg3 (own_ne (fun j hj e => by cases e; have := L2.out _ (Or.inl hj); omega)), h2.kept hg3 (own_ne (fun j hj e => by cases e; have := L2.out _ (Or.inr (Or.inl hj)); omega)), h3.kept hg3 (own_ne (fun j hj e => by cases e; have := L2.out _ (Or.inr (Or.inr hj)); omega)), h4⟩
  clear p0 p1 p2 p3 f0 f1 f2 f3 A2 R2 B2 O2 RD2 L2 hg3 hA2
  obtain ⟨p0, p1, p2, p3⟩ := four_cells A3.out
  obtain ⟨⟨_, _, e1, i1⟩, ⟨_, _, e2, i2⟩, ⟨_, _, e3, i3⟩⟩ := O3.out.read
  cases e1
  cases e2
  cases e3
  have I1 := Lib.hid i1
  have I2 := Lib.hid i2
  have I3 := Lib.hid i3
  clear i1 i2 i3
  go_wp2_with fail
  refine (sAutomatonValid_is m E1 E2 E3 k1 k2 k3 xs ys ss r _ I1.out I2.out I3.out HR.out).mono ?_
  rintro e w4 ⟨rfl, hb4⟩
  have A4 := Lib.hid (blk_b A3.out hb4.out)
  have R4 := Lib.hid (blk_b R3.out hb4.out)
  have B4 := Lib.hid (below_on B3.out hb4.out)
  have O4 := Lib.hid (O3.out.under hb4.out)
  clear p0 p1 p2 p3 A3 R3 B3 O3 I1 I2 I3 hb4
  have hA4 := Blk.lt A4.out
  have hR4 := Blk.lt R4.out
  have hwR4 := B4.out.size
  cases r
  · obtain ⟨f0, f1, f2, f3⟩ := four_frozen R4.out
    obtain ⟨r0, r1, r2, r3⟩ := four_cells R4.out
    go_wp2_with fail
    have HF := four_set R4.out (.int .i64 0) (.slice none 0 0) (.slice none 0 0) (.slice none 0 0)
    have HG := four_grow w4 R (.int .i64 0) (.slice none 0 0) (.slice none 0 0) (.slice none 0 0)
    refine bodyPost_ret (results_2 rfl (Gives.row (g := R) rfl HF Try.underlying29 rfl (by kernel_rfl)) (.tmp rfl)) rfl ?_
    exact ⟨_, _, _, rfl, ⟨⟨none, 0, rfl, irow_nil _ _ _⟩, ⟨none, 0, rfl, irow_nil _ _ _⟩, ⟨none, 0, rfl, SRow.nil _ _ _⟩⟩, B4.out.grown HG hwR4 (fun j hj => by cases hj; omega)⟩
  · obtain ⟨p0, p1, p2, p3⟩ := four_cells A4.out
    go_upto_region 5 with fail
    obtain ⟨N, hN⟩ : ∃ N, N = w4.heap.size := ⟨_, rfl⟩
    obtain ⟨V, hV⟩ : ∃ V, V = w4.heap.size + 1 := ⟨_, rfl⟩
    rw [← hV, ← hN]
    obtain ⟨w5, hw5⟩ : ∃ w5, w5 = (w4.alloc (.cells #[] 73)).alloc (.cells #[.int .i64 m, .slice E2 ys.length k2, .slice E1 xs.length k1, .slice (some ⟨N, 0, none⟩) 0 0] 29) := ⟨_, rfl⟩
    have hb5 : Below w4.heap.size w4 w5 := by rw [hw5]; exact below_a2 w4 _ _
    have V5 : Hid (Blk w5 V 29 #[.int .i64 m, .slice E2 ys.length k2, .slice E1 xs.length k1, .slice (some ⟨N, 0, none⟩) 0 0]) := by rw [hw5, hV]; exact blk_new (by simp)
    have N5 : Hid (w5.ownsRow N 73 4 (.slice (some ⟨N, 0, none⟩) 0 0) 0 (flatS [])) := by rw [hw5, hN]; exact World.ownsRow.alloc (World.ownsRow_made w4 #[] 0 (Nat.le_refl _) (by unfold maxLen; omega) rfl) _
    rw [← hw5]
    have A5 := Lib.hid (blk_b A4.out hb5)
    have R5 := Lib.hid (blk_b R4.out hb5)
    have B5 := Lib.hid (below_on B4.out hb5)
    have O5 := Lib.hid (O4.out.under hb5)
    have L5 : Hid (∀ j, (Value.slice E1 xs.length k1).ownBlock = some j ∨ (Value.slice E2 ys.length k2).ownBlock = some j ∨ (Value.slice E3 ss.length k3).ownBlock = some j → R < j ∧ j < N) := fun j hj => by
      obtain ⟨h1, h2, h3, _⟩ := O4.out
      rcases hj with hj | hj | hj
      · have := h1.lt j hj; omega
      · have := h2.lt j hj; omega
      · have := h3.lt j hj; omega
    have hRN : R < N := by omega
    have hNV : N < V := by omega
    have hwN : w.heap.size ≤ N := by omega
    have hN5 : N ≤ w5.heap.size := by rw [hN]; exact hb5.size
    obtain ⟨⟨_, _, e1, i1⟩, ⟨_, _, e2, i2⟩, ⟨_, _, e3, i3⟩⟩ := O4.out.read
    cases e1
    cases e2
    cases e3
    have S5 : Hid (SRow w5 N E3 ss) := by rw [hN]; exact i3.below hb5
    clear i1 i2 i3 hw5 hb5 p0 p1 p2 p3 A4 R4 B4 O4 hA4 hR4 hwR4 hN hV
    obtain ⟨p0, p1, p2, p3⟩ := four_cells A5.out
    go_wp2_with fail
    clear p0 p1 p2 p3
    obtain ⟨hmv, hpw⟩ := HMV.out (by first | rfl | trivial)
    have HV := Lib.hid hmv
    have HPW : Hid ((ss.map swS).Pairwise (fun x y => ¬ code x = code y)) := sw_pw hmv hpw
    have HLE2 := HLE.out (by first | rfl | trivial)
    clear HMV hmv hpw HLE
    go_loopw [24] (fun i wr => ∃ (k n g cap : Nat) (us : List StepD), k ≤ ss.length ∧ n ≤ k ∧ i = .int .i64 k ∧ Hid (us = putsL ((ss.take k).map swS)) ∧ Hid (us.length = n) ∧ Hid (Blk wr V 29 #[.int .i64 m, .slice E2 ys.length k2, .slice E1 xs.length k1, .slice (some ⟨g, 0, none⟩) n cap]) ∧ Hid (wr.ownsRow N 73 4 (.slice (some ⟨g, 0, none⟩) n cap) n (flatS us)) ∧ Hid (Below N w5 wr)) (fun i _ => ss.length - (intOf i).toNat)
    case atStart => exact ⟨0, 0, N, 0, [], by omega, by omega, rfl, rfl, rfl, V5, N5, Below.refl _ _⟩
    case round =>
      obtain ⟨k, n, g, cap, us, hk, hnk, rfl, hus, hul, hv, hown, hbw⟩ := hrel
      have hVw := Blk.lt hv.out
      have hNw : N ≤ wr.heap.size := Nat.le_trans hN5 hbw.out.size
      by_cases hlt : k < ss.length
      · obtain ⟨b, off, s, e, hbN, hst, hsl, _, hsg⟩ := (S5.out.below hbw.out).at_ hlt
        obtain ⟨q0, q1, q2, q3⟩ := hst
        subst e
        have hsm : s ∈ ss := by rw [← hsg, List.getD_eq_getElem?_getD, List.getElem?_eq_getElem hlt]; simp
        have htk := take_snoc_s hlt hsg
        have HSV : Hid (mvOk (swS s)) := sw_mv (HV.out s hsm)
        have hin : ∀ t ∈ us, t ∈ (ss.take k).map swS := fun t ht => by
          rw [hus.out] at ht
          exact ((putsL_new _ _ rfl (fun u hu => sw_all HV.out u (map_take hu)) (pw_take HPW.out)).2 t).1 ht
        have HUV : Hid (∀ t ∈ us, mvOk t) := fun t ht => sw_all HV.out t (map_take (hin t ht))
        have HNE : Hid (∀ t ∈ us, ¬ code t = code (swS s)) := fun t ht => by
          have h1 := pw_take (k := k + 1) HPW.out
          rw [htk, List.map_append, List.pairwise_append] at h1
          exact h1.2.2 t (hin t ht) (swS s) (by simp)
        have HU : Hid (putL us (swS s) = putsL ((ss.take (k + 1)).map swS)) := by show _ = _; rw [htk, List.map_append, List.map_cons, List.map_nil, putsL_snoc, hus.out]
        have HL6 : Hid ((putL us (swS s)).length = n + 1) := by show _ = _; rw [putL_length (HNE.out) HUV.out HSV.out, hul.out]
        have hk0 : (0 : Int) ≤ (k : Int) := by omega
        have hk1 : (k : Int) < (ss.length : Int) := by omega
        have hn24 : n ≤ 1000 := by omega
        clear hsg hsm htk hin hus
        obtain ⟨p0, p1, p2, p3⟩ := four_cells hv.out
        go_wp2_with fail
        have O1 := Lib.hid (hown.out.alloc (.cells #[.int .i64 s.fr, .string s.le, .int .i64 s.to_, .int .i64 s.co] 73))
        have V1 := Lib.hid (hv.out.alloc (.cells #[.int .i64 s.fr, .string s.le, .int .i64 s.to_, .int .i64 s.co] 73))
        have BW1 := Lib.hid (hbw.out.alloc hNw (.cells #[.int .i64 s.fr, .string s.le, .int .i64 s.to_, .int .i64 s.co] 73))
        have hc := put_any g cap n N us (swS s) _ O1.out hul.out hn24 HUV.out HSV.out HNE.out
        unfold stepV swS at hc
        refine hc.mono ?_
        rintro e w6 ⟨g', cap', rfl, ho6, hb6⟩
        have V6 := Lib.hid (blk_b V1.out hb6.out)
        have O6 := Lib.hid (own4_base ho6.out (show N ≤ _ from Nat.le_trans hNw (by simp)))
        have B6 := Lib.hid (BW1.out.trans (hb6.out.mono (Nat.le_trans hNw (by simp))))
        have hVg : ¬ V = g' := fun e => by
          subst e
          exact own_ne_blk O6.out V6.out (by decide) rfl
        have B7 := Lib.hid (B6.out.setCell (p := ⟨V, 3, none⟩) (show N ≤ V by omega) (.slice (some ⟨g', 0, none⟩) (n + 1) cap'))
        have O7 := Lib.hid (O6.out.kept (grow_set w6 V 3 (.slice (some ⟨g', 0, none⟩) (n + 1) cap')) (own_ne (fun j hj e => by cases e; cases hj; exact hVg rfl)))
        have V7 := Lib.hid (V6.out.set_ 3 (.slice (some ⟨g', 0, none⟩) (n + 1) cap'))
        clear hc p0 p1 p2 p3 q0 q1 q2 q3 hown hbw hv hb6 ho6 hVg hul O1 V1 BW1
        obtain ⟨p0, p1, p2, p3⟩ := four_cells V6.out
        obtain ⟨f0, f1, f2, f3⟩ := four_frozen V6.out
        go_wp2_with fail
        go_roundw
        case rel => exact ⟨k + 1, n + 1, g', cap', _, by omega, by omega, by go_num, HU, HL6, V7, O7, B7⟩
        case measure => simp [intOf]; omega
      · have hkn : k = ss.length := by omega
        have HE : Hid (us = putsL (ss.map swS)) := by show _ = _; rw [hus.out, hkn, List.take_length]
        have Rr : Hid (Blk wr R 29 #[.int .i64 0, .slice none 0 0, .slice none 0 0, .slice none 0 0]) := Blk.below R5.out hbw.out hRN
        obtain ⟨p0, p1, p2, p3⟩ := four_cells hv.out
        obtain ⟨f0, f1, f2, f3⟩ := four_frozen Rr.out
        obtain ⟨r0, r1, r2, r3⟩ := four_cells Rr.out
        have hk1 : ¬ (k : Int) < (ss.length : Int) := by omega
        go_wp2_with fail
        have HF := four_set Rr.out (.int .i64 m) (.slice E2 ys.length k2) (.slice E1 xs.length k1) (.slice (some ⟨g, 0, none⟩) n cap)
        have HG := four_grow wr R (.int .i64 m) (.slice E2 ys.length k2) (.slice E1 xs.length k1) (.slice (some ⟨g, 0, none⟩) n cap)
        refine bodyPost_ret (results_2 rfl (Gives.row (g := R) rfl HF Try.underlying29 rfl (by kernel_rfl)) (.tmp rfl)) rfl ?_
        obtain ⟨o1, o2, o3, o4⟩ := O5.out
        have P1 := own_low o1 hbw.out (fun j hj => (L5.out j (Or.inl hj)).2)
        have P2 := own_low o2 hbw.out (fun j hj => (L5.out j (Or.inr (Or.inl hj))).2)
        have P1 := P1.kept HG (own_ne (fun j hj e => by cases e; have := (L5.out _ (Or.inl hj)).1; omega))
        have P2 := P2.kept HG (own_ne (fun j hj e => by cases e; have := (L5.out _ (Or.inr (Or.inl hj))).1; omega))
        have P3 := hown.out.kept HG (own_ne (fun j hj e => by cases e; have := (hown.out.lt _ hj).1; omega))
        obtain ⟨_, _, e1, _, i1⟩ := own_ints P1 (by unfold maxLen; omega)
        obtain ⟨_, _, e2, _, i2⟩ := own_ints P2 (by unfold maxLen; omega)
        cases e1
        cases e2
        obtain ⟨_, _, e3, i3⟩ := own_read4 P3 hul.out (by omega) (fun s hs => by
          rw [HE.out] at hs
          have h2 := ((putsL_new _ _ rfl (sw_all HV.out) HPW.out).2 s).1 hs
          rcases (sw_all HV.out s h2).2.2.2.2 with h | h <;> rw [h] <;> decide)
        refine ⟨_, _, _, rfl, ⟨⟨_, _, rfl, i2⟩, ⟨_, _, rfl, i1⟩, ?_⟩, ?_⟩
        · show ∃ A c, Value.slice (some ⟨g, 0, none⟩) n cap = .slice A (putsL (ss.map swS)).length c ∧ SRow _ _ A (putsL (ss.map swS))
          rw [← HE.out]
          exact ⟨_, _, e3, i3⟩
        · exact ((B5.out.trans (hbw.out.mono hwN)).grown HG (by omega) (fun j hj => by cases hj; omega))
end Go.Proofs.Ytdfnlaclggjckaa
