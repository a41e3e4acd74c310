/- The walk of the law of what is stable: it returns true for all inputs, and nothing that was there changes. No condition. -/
import Derived.Test.YtaiplhddbmhodaaGVA
import Derived.Test.YtaiplhddbmhodaaGStabP
import Derived.OpenShut
namespace Go.Proofs.Ytaiplhddbmhodaa
open Go.RowKit
set_option maxHeartbeats 2000000
set_option maxRecDepth 100000
set_option linter.unusedVariables false

theorem drawStab_any (A : Option Addr) (cap : Nat) (zs : List Int) (w : World) (hz : IRow .u8 w w.heap.size A zs) (hc : zs.length ≤ cap) (hb : ∀ z ∈ zs, 0 ≤ z ∧ z ≤ 255) :
    Calls Try.prog 13 #[.slice A zs.length cap] w fun e w' => Drawn1G w e w' := by
  have HB := Lib.hid hb
  have HZ := Lib.hid hz
  clear hb hz
  go_enter Try.func13, Try.ntmps13
  go_wp2_with fail
  obtain ⟨w2, hw2⟩ : ∃ w2, w2 = w.alloc (.cells #[.int .i64 0, .slice none 0 0] 25) := ⟨_, rfl⟩
  have B2 : Hid (Below w.heap.size w w2) := by rw [hw2]; exact below_a1 _ _
  have R2 : Hid (Blk w2 w.heap.size 25 #[.int .i64 0, .slice none 0 0]) := by rw [hw2]; exact Blk.new _ _ _
  rw [← hw2]
  clear hw2
  have Z2 := Lib.hid ((HZ.out.below B2.out).more B2.out.size)
  refine (open_any A cap zs w2 Z2.out hc HB.out).mono ?_
  rintro e w3 ⟨A1, cap1, ys, rfl, hrd, hbel⟩
  have hU := Blk.lt R2.out
  have R3 := Lib.hid (blk_b R2.out hbel)
  have B3 := Lib.hid (below_on B2.out hbel)
  have D3 := Lib.hid hrd
  have hs3 : w2.heap.size ≤ w3.heap.size := hbel.size
  clear hbel hrd
  obtain ⟨g, hg⟩ : ∃ g, g = w2.heap.size := ⟨_, rfl⟩
  rw [← hg]
  rw [← hg] at D3
  have hg0 : w.heap.size < g := by omega
  have hg1 : g ≤ w3.heap.size := by omega
  clear hg hU hs3
  go_wp2_with fail
  refine (l6IdemD_any _ _ _ _ _ _ _ D3.out (by omega)).mono ?_
  rintro e w4 ⟨_, m, us, q4, rfl, ⟨x4, rfl, ho4, hl6⟩, hl7, hq4, hrd4, hg4⟩
  obtain ⟨A4, cap4, rfl, _, _⟩ := own_ints ho4 (by unfold maxLen; omega)
  have R4 := Lib.hid (R3.out.grown hg4 (by omega))
  have B4 := Lib.hid (grow_under B3.out hg4 (by omega))
  have O4 := Lib.hid ho4
  clear hrd4 hg4 ho4
  obtain ⟨c0, c1⟩ := two_cells R4.out
  obtain ⟨f0, f1⟩ := two_frozen R4.out
  go_wp2_with fail
  have HV := (R4.out.set_ 0 (.int .i64 m)).set_ 1 (.slice A4 us.length cap4)
  have HO := Lib.hid (own_base (own_far2 O4.out (a := w.heap.size) (by omega) (.int .i64 m) (.slice A4 us.length cap4)) (show w.heap.size ≤ _ by omega))
  have HB4 := Lib.hid ((B4.out.setCell (p := ⟨w.heap.size, 0, none⟩) (Nat.le_refl _) (.int .i64 m)).setCell (p := ⟨w.heap.size, 1, none⟩) (Nat.le_refl _) (.slice A4 us.length cap4))
  clear c0 c1 f0 f1
  refine bodyPost_ret (results_1 rfl (gives_mat (g := w.heap.size) rfl HV)) rfl ?_
  exact ⟨A4, cap4, m, us, rfl, HO, hl7.2, HB4⟩

theorem iStab_r (m mr : Int) (zs rs : List Int) (ok : Bool) (A : Option Addr) (cap : Nat) (w : World) (hz : OwnI w A cap zs) (hl : zs.length ≤ 1048577) (h1 : ((gstabR m zs).getD (0, [])).1 = mr) (h2 : ((gstabR m zs).getD (0, [])).2 = rs) (h3 : (gstabR m zs).isSome = ok) :
    Calls Try.prog 14 #[.agg #[.int .i64 m, .slice A zs.length cap]] w fun e w' => REnd mr rs ok w e w' :=
  (iStabilise_any m A cap zs w (hz.ints hl)).mono fun e w' h => h.form h1 h2 h3
theorem sStab_r (m mr : Int) (zs rs : List Int) (ok : Bool) (A : Option Addr) (cap : Nat) (w : World) (hz : OwnI w A cap zs) (hl : zs.length ≤ 1048577) (h1 : ((gstabR m zs).getD (0, [])).1 = mr) (h2 : ((gstabR m zs).getD (0, [])).2 = rs) (h3 : (gstabR m zs).isSome = ok) :
    Calls Try.prog 15 #[.agg #[.int .i64 m, .slice A zs.length cap]] w fun e w' => REnd mr rs ok w e w' :=
  (sStabilise_any m A cap zs w (hz.ints hl)).mono fun e w' h => h.form h1 h2 h3
theorem iIdem_r (m : Int) (zs : List Int) (ok : Bool) (A : Option Addr) (cap : Nat) (w : World) (hz : OwnI w A cap zs) (hl : zs.length ≤ 1048577) (h1 : idemB m zs = ok) :
    Calls Try.prog 16 #[.agg #[.int .i64 m, .slice A zs.length cap]] w fun e w' => e = .returned (.bool ok) ∧ Hid (Below w.heap.size w w') :=
  (iIsIdem_is m A cap zs ok w (hz.ints hl) h1).mono fun e w' h => h

theorem FnStabilise_walk (A : Option Addr) (cap : Nat) (zs : List Int) (w : World) (hz : IRow .u8 w w.heap.size A zs) (hc : zs.length ≤ cap) (hwf : ∀ z ∈ zs, (Lit.int .u8 z).wf = true) :
    Calls Try.prog 4 #[.slice A zs.length cap] w fun e w' => e = .returned (.bool true) ∧ Below w.heap.size w w' := by
  have hl1 := hz.len
  have HB := Lib.hid (show ∀ z ∈ zs, 0 ≤ z ∧ z ≤ 255 from fun z hz => bounds_u8 (hwf z hz))
  clear hwf
  by_cases hs1 : (1048576 : Int) < (zs.length : Int)
  · go_enter Try.func4, Try.ntmps4
    go_wp2_with fail
    go_ret
    exact ⟨rfl, Below.refl _ _⟩
  go_enter Try.func4, Try.ntmps4
  go_wp2_with fail
  refine (drawStab_any _ _ _ _ hz hc HB.out).mono ?_
  rintro e w1 ⟨A1, cap1, m, us, rfl, O1', hl3', HB1⟩
  have O1 : Hid (OwnI w1 A1 cap1 us) := own_base O1'.out (Nat.zero_le _)
  have hl3 : us.length ≤ 1048577 := by omega
  clear hz HB O1' hl3'
  obtain ⟨r, hr⟩ : ∃ r, r = gstabR m us := ⟨_, rfl⟩
  obtain ⟨bb, hbb⟩ : ∃ bb, idemB m us = bb := ⟨_, rfl⟩
  have HID := Lib.hid hbb
  have HR := Lib.hid hr
  have HRB : Hid (r.isSome = bb) := by
    show _ = _
    rw [hr, ← hbb]
    unfold gstabR
    split
    · rename_i h; rw [h]; rfl
    · rename_i h; cases h' : idemB m us
      · rfl
      · exact absurd h' h
  clear hr hbb
  obtain ⟨mr, hmr⟩ : ∃ mr, (r.getD (0, [])).1 = mr := ⟨_, rfl⟩
  obtain ⟨rs, hrs⟩ : ∃ rs, (r.getD (0, [])).2 = rs := ⟨_, rfl⟩
  have H1 := Lib.hid hmr
  have H2 := Lib.hid hrs
  clear hmr hrs
  have N1 := Lib.hid (VA.new rfl O1.out hl3 (m := m))
  have B1 := Lib.hid (below_al HB1.out (Nat.le_refl _) (MO A1 cap1 m us))
  clear O1 HB1
  go_wp2_with fail
  refine (iStab_r _ mr _ rs bb _ _ _ N1.out.2.1 hl3 (by rw [← HR.out]; exact H1.out) (by rw [← HR.out]; exact H2.out) (by rw [← HR.out]; exact HRB.out)).mono ?_
  rintro e w2 ⟨k3, A3, cap3, rfl, K3, O3, hl5, Hk⟩
  have F1 := Lib.hid (N1.out.below Hk.out)
  have B2 := Lib.hid (below_on B1.out Hk.out)
  clear N1 B1 Hk
  obtain ⟨x0, x1⟩ := F1.out.cells
  have x2 := F1.out.lt
  have N1 := Lib.hid (F1.out.al (MO A3 cap3 k3 rs))
  have N3 := Lib.hid (VA.new rfl O3.out hl5 (m := k3))
  have B3 := Lib.hid (below_al B2.out (Nat.le_refl _) (MO A3 cap3 k3 rs))
  clear F1 O3 B2
  go_wp2_with fail
  refine (sStab_r _ mr _ rs bb _ _ _ N1.out.2.1 hl3 (by rw [← HR.out]; exact H1.out) (by rw [← HR.out]; exact H2.out) (by rw [← HR.out]; exact HRB.out)).mono ?_
  rintro e w3 ⟨k4, A4, cap4, rfl, K4, O4, hl6, Hk⟩
  have F1 := Lib.hid (N1.out.below Hk.out)
  have F3 := Lib.hid (N3.out.below Hk.out)
  have B4 := Lib.hid (below_on B3.out Hk.out)
  clear N1 N3 B3 Hk x0 x1 x2
  obtain ⟨x0, x1⟩ := F3.out.cells
  have x2 := F3.out.lt
  have N1 := Lib.hid (F1.out.al (MO A4 cap4 k4 rs))
  have N3 := Lib.hid (F3.out.al (MO A4 cap4 k4 rs))
  have N4 := Lib.hid (VA.new rfl O4.out hl6 (m := k4))
  have B5 := Lib.hid (below_al B4.out (Nat.le_refl _) (MO A4 cap4 k4 rs))
  clear F1 F3 O4 B4
  go_wp2_with fail
  refine (da_r _ _ _ _ _ _ _ _ (K3.out.trans K4.out.symm) N3.out.2.1 N4.out.2.1 hl5).mono ?_
  rintro e w4 ⟨rfl, Hk⟩
  have F1 := Lib.hid (N1.out.below Hk.out)
  have F3 := Lib.hid (N3.out.below Hk.out)
  have F4 := Lib.hid (N4.out.below Hk.out)
  have B6 := Lib.hid (below_on B5.out Hk.out)
  clear N1 N3 N4 B5 Hk x0 x1 x2
  obtain ⟨x0, x1⟩ := F1.out.cells
  have x2 := F1.out.lt
  rcases Bool.eq_false_or_eq_true bb with hb | hb
  · subst hb
    obtain ⟨h1, h2⟩ : gradeOk m us = true ∧ gmulL m.toNat us us = us := by
      have h := HID.out
      simp only [idemB, Bool.and_eq_true, decide_eq_true_eq] at h
      exact h
    obtain ⟨N, hm, gv⟩ := gradeOk_t h1
    have hN : m.toNat = N := by omega
    rw [hN] at h2
    have hg : gstabR m us = some (m, stabL N us) := by unfold gstabR; rw [if_pos HID.out, hN]
    have KM := Lib.hid hm
    have GA := Lib.hid gv
    have ID := Lib.hid h2
    have ER : Hid (rs = stabL N us) := by show _ = _; rw [← H2.out, HR.out, hg]; rfl
    have EM : Hid (mr = (N : Int)) := by show _ = _; rw [← H1.out, HR.out, hg]; exact hm
    have GR : Hid (GV N rs) := by show _; rw [ER.out]; exact stabL_ok gv
    have SI : Hid (gmulL N rs rs = rs) := by show _ = _; rw [ER.out]; exact stabL_idem h2
    have SB : Hid (idemB mr rs = true) := by show _ = _; rw [EM.out]; unfold idemB; rw [gradeOk_mk GR.out, Int.toNat_natCast, SI.out]; simp
    have SS : Hid (gstabR mr rs = some ((N : Int), rs)) := by
      show _ = _
      unfold gstabR
      rw [if_pos SB.out, EM.out, Int.toNat_natCast]
      have h := stabL_stab gv h2
      rw [← ER.out] at h
      rw [h]
    have SL : Hid (gmulL N us rs = rs) := by show _ = _; rw [ER.out]; exact stabL_left h2
    have SR : Hid (gmulL N rs us = rs) := by show _ = _; rw [ER.out]; exact stabL_right h2
    have hlu := gv.len
    have hlr := GR.out.len
    have SC : Hid (∀ q, q < rs.length → us.getD q 0 ≤ rs.getD q 0 ∧ (rs.getD q 0 = 3 → us.getD q 0 = 3)) := by
      show ∀ _, _
      intro q hq
      have h := stabL_cells gv h2 (q := q) (by omega)
      rw [← ER.out] at h
      exact h
    have LE : Hid (rs.length = us.length) := by show _ = _; omega
    have KK3 := Lib.hid (K3.out.trans EM.out)
    clear h1 h2 hm gv hN hg hlu hlr H1 H2 HR HRB
    go_wp2_with fail
    refine (iIdem_r _ _ true _ _ _ F1.out.2.1 hl3 HID.out).mono ?_
    rintro e w5 ⟨rfl, Hk⟩
    have N1 := Lib.hid (F1.out.below Hk.out)
    have N3 := Lib.hid (F3.out.below Hk.out)
    have B7 := Lib.hid (below_on B6.out Hk.out)
    clear F1 F3 F4 B6 Hk x0 x1 x2
    obtain ⟨x0, x1⟩ := N3.out.cells
    have x2 := N3.out.lt
    go_wp2_with fail
    refine (iStab_r _ (N : Int) _ rs true _ _ _ N3.out.2.1 hl5 (by rw [K3.out, SS.out]; rfl) (by rw [K3.out, SS.out]; rfl) (by rw [K3.out, SS.out]; rfl)).mono ?_
    rintro e w6 ⟨k8, A8, cap8, rfl, K8, O8, hl8, Hk⟩
    have F1 := Lib.hid (N1.out.below Hk.out)
    have F3 := Lib.hid (N3.out.below Hk.out)
    have B8 := Lib.hid (below_on B7.out Hk.out)
    clear N1 N3 B7 Hk x0 x1 x2
    obtain ⟨x0, x1⟩ := F1.out.cells
    have x2 := F1.out.lt
    obtain ⟨y0, y1⟩ := F3.out.cells
    have y2 := F3.out.lt
    have N1 := Lib.hid (F1.out.al (MO A8 cap8 k8 rs))
    have N3 := Lib.hid (F3.out.al (MO A8 cap8 k8 rs))
    have N8 := Lib.hid (VA.new rfl O8.out hl8 (m := k8))
    have B9 := Lib.hid (below_al B8.out (Nat.le_refl _) (MO A8 cap8 k8 rs))
    clear F1 F3 O8 B8
    go_wp2_with fail
    refine (iMulG_v N _ _ _ _ rs _ _ _ _ _ KM.out KK3.out GA.out GR.out SL.out N1.out.2.1 N3.out.2.1 hl3 hl5).mono ?_
    rintro e w7 ⟨k10, A10, cap10, rfl, K10, O10, hl10, Hk⟩
    have F1 := Lib.hid (N1.out.below Hk.out)
    have F3 := Lib.hid (N3.out.below Hk.out)
    have F8 := Lib.hid (N8.out.below Hk.out)
    have B10 := Lib.hid (below_on B9.out Hk.out)
    clear N1 N3 N8 B9 Hk x0 x1 x2 y0 y1 y2
    obtain ⟨x0, x1⟩ := F1.out.cells
    have x2 := F1.out.lt
    obtain ⟨y0, y1⟩ := F3.out.cells
    have y2 := F3.out.lt
    have N1 := Lib.hid (F1.out.al (MO A10 cap10 k10 rs))
    have N3 := Lib.hid (F3.out.al (MO A10 cap10 k10 rs))
    have N8 := Lib.hid (F8.out.al (MO A10 cap10 k10 rs))
    have N10 := Lib.hid (VA.new rfl O10.out hl10 (m := k10))
    have B11 := Lib.hid (below_al B10.out (Nat.le_refl _) (MO A10 cap10 k10 rs))
    clear F1 F3 F8 O10 B10
    go_wp2_with fail
    refine (iMulG_v N _ _ _ _ rs _ _ _ _ _ KK3.out KM.out GR.out GA.out SR.out N3.out.2.1 N1.out.2.1 hl5 hl3).mono ?_
    rintro e w8 ⟨k12, A12, cap12, rfl, K12, O12, hl12, Hk⟩
    have F1 := Lib.hid (N1.out.below Hk.out)
    have F3 := Lib.hid (N3.out.below Hk.out)
    have F8 := Lib.hid (N8.out.below Hk.out)
    have F10 := Lib.hid (N10.out.below Hk.out)
    have B12 := Lib.hid (below_on B11.out Hk.out)
    clear N1 N3 N8 N10 B11 Hk x0 x1 x2 y0 y1 y2
    obtain ⟨y0, y1⟩ := F3.out.cells
    have y2 := F3.out.lt
    have N1 := Lib.hid (F1.out.al (MO A12 cap12 k12 rs))
    have N3 := Lib.hid (F3.out.al (MO A12 cap12 k12 rs))
    have N8 := Lib.hid (F8.out.al (MO A12 cap12 k12 rs))
    have N10 := Lib.hid (F10.out.al (MO A12 cap12 k12 rs))
    have N12 := Lib.hid (VA.new rfl O12.out hl12 (m := k12))
    have B13 := Lib.hid (below_al B12.out (Nat.le_refl _) (MO A12 cap12 k12 rs))
    clear F1 F3 F8 F10 O12 B12
    go_wp2_with fail
    obtain ⟨wz, hwz⟩ : ∃ wz, wz = w8.alloc (MO A12 cap12 k12 rs) := ⟨_, rfl⟩
    rw [← hwz] at N1 N3 N8 N10 N12 B13
    rw [show w8.alloc (.cells #[.int .i64 k12, .slice A12 rs.length cap12] 25) = wz from hwz.symm]
    clear hwz y0 y1 y2
    obtain ⟨x0, x1⟩ := N1.out.cells
    have x2 := N1.out.lt
    go_loopw [84] (fun i wr => ∃ (k : Nat), k ≤ rs.length ∧ i = .int .i64 k ∧ wr = wz) (fun i _ => rs.length - (intOf i).toNat)
    case atStart => exact ⟨0, Nat.zero_le _, rfl, rfl⟩
    case round =>
      obtain ⟨k, hk, rfl, rfl⟩ := hrel
      by_cases hlt : k < rs.length
      · obtain ⟨b, off, z, hA3, _, hc3, _, hg3⟩ := (N3.out.2.1.ints hl5).at_ (k := k) hlt
        obtain ⟨b', off', y, hA1, _, hc1, _, hg1⟩ := (N1.out.2.1.ints hl3).at_ (k := k) (by have := LE.out; omega)
        have hyz := SC.out k hlt
        rw [hg3, hg1] at hyz
        subst hA3
        subst hA1
        have hi0 : (0 : Int) ≤ (k : Int) := by omega
        have hi1 : (k : Int) < (rs.length : Int) := by omega
        have hi2 : (k : Int) < (us.length : Int) := by have := LE.out; omega
        have hny : ¬ z < y := by have := hyz.1; omega
        clear hg3 hg1
        by_cases h3 : z = 3
        · have hy3 := hyz.2 h3
          subst h3
          subst hy3
          clear hyz
          go_wp2_with fail
          go_roundw
          case rel => exact ⟨k + 1, by omega, by go_num, by first | trivial | rfl⟩
          case measure => simp [intOf]; omega
        · have hb3 : (z == 3) = false := by rw [beq_eq_false_iff_ne]; exact h3
          clear hyz
          go_wp2_with fail
          go_roundw
          case rel => exact ⟨k + 1, by omega, by go_num, by first | trivial | rfl⟩
          case measure => simp [intOf]; omega
      · clear x0 x1 x2
        obtain ⟨x0, x1⟩ := N8.out.cells
        have x2 := N8.out.lt
        obtain ⟨y0, y1⟩ := N3.out.cells
        have y2 := N3.out.lt
        go_wp2_with fail
        refine (da_r _ _ _ _ _ _ _ _ (K8.out.trans KK3.out.symm) N8.out.2.1 N3.out.2.1 hl5).mono ?_
        rintro e t1 ⟨rfl, Hk⟩
        have F3 := Lib.hid (N3.out.below Hk.out)
        have F10 := Lib.hid (N10.out.below Hk.out)
        have F12 := Lib.hid (N12.out.below Hk.out)
        have C1 := Lib.hid (below_on B13.out Hk.out)
        clear N1 N3 N8 N10 N12 B13 Hk x0 x1 x2 y0 y1 y2
        obtain ⟨y0, y1⟩ := F3.out.cells
        have y2 := F3.out.lt
        go_wp2_with fail
        refine (iIdem_r _ _ true _ _ _ F3.out.2.1 hl5 (by rw [K3.out]; exact SB.out)).mono ?_
        rintro e t2 ⟨rfl, Hk⟩
        have N3 := Lib.hid (F3.out.below Hk.out)
        have N10 := Lib.hid (F10.out.below Hk.out)
        have N12 := Lib.hid (F12.out.below Hk.out)
        have C2 := Lib.hid (below_on C1.out Hk.out)
        clear F3 F10 F12 C1 Hk y0 y1 y2
        obtain ⟨x0, x1⟩ := N10.out.cells
        have x2 := N10.out.lt
        obtain ⟨y0, y1⟩ := N3.out.cells
        have y2 := N3.out.lt
        go_wp2_with fail
        refine (da_r _ _ _ _ _ _ _ _ (K10.out.trans KK3.out.symm) N10.out.2.1 N3.out.2.1 hl5).mono ?_
        rintro e t3 ⟨rfl, Hk⟩
        have F3 := Lib.hid (N3.out.below Hk.out)
        have F12 := Lib.hid (N12.out.below Hk.out)
        have C3 := Lib.hid (below_on C2.out Hk.out)
        clear N3 N10 N12 C2 Hk x0 x1 x2 y0 y1 y2
        obtain ⟨x0, x1⟩ := F12.out.cells
        have x2 := F12.out.lt
        obtain ⟨y0, y1⟩ := F3.out.cells
        have y2 := F3.out.lt
        go_wp2_with fail
        refine (da_r _ _ _ _ _ _ _ _ (K12.out.trans KK3.out.symm) F12.out.2.1 F3.out.2.1 hl5).mono ?_
        rintro e t4 ⟨rfl, Hk⟩
        have C4 := Lib.hid (below_on C3.out Hk.out)
        go_wp2_with fail
        go_ret
        exact ⟨rfl, C4.out⟩
  · subst hb
    go_wp2_with fail
    refine (iIdem_r _ _ false _ _ _ F1.out.2.1 hl3 HID.out).mono ?_
    rintro e w5 ⟨rfl, Hk⟩
    have N1 := Lib.hid (F1.out.below Hk.out)
    have N3 := Lib.hid (F3.out.below Hk.out)
    have N4 := Lib.hid (F4.out.below Hk.out)
    have B7 := Lib.hid (below_on B6.out Hk.out)
    clear F1 F3 F4 B6 Hk x0 x1 x2
    obtain ⟨x0, x1⟩ := N3.out.cells
    have x2 := N3.out.lt
    obtain ⟨y0, y1⟩ := N4.out.cells
    have y2 := N4.out.lt
    go_wp2_with fail
    refine (da_r _ _ _ _ _ _ _ _ (K3.out.trans K4.out.symm) N3.out.2.1 N4.out.2.1 hl5).mono ?_
    rintro e w6 ⟨rfl, Hk⟩
    have F1 := Lib.hid (N1.out.below Hk.out)
    have B8 := Lib.hid (below_on B7.out Hk.out)
    clear N1 N3 N4 B7 Hk x0 x1 x2 y0 y1 y2
    obtain ⟨x0, x1⟩ := F1.out.cells
    have x2 := F1.out.lt
    go_wp2_with fail
    refine (iIdem_r _ _ false _ _ _ F1.out.2.1 hl3 HID.out).mono ?_
    rintro e w7 ⟨rfl, Hk⟩
    have B9 := Lib.hid (below_on B8.out Hk.out)
    go_wp2_with fail
    go_ret
    exact ⟨rfl, B9.out⟩
end Go.Proofs.Ytaiplhddbmhodaa
