/- The walk of the law of products of matrices: it returns true for all inputs, and nothing that was there changes. No condition. -/
import Derived.Test.YtaiplhddbmhodaaGVA
import Derived.OpenShut
import Derived.Deep.DeepCutAuto
import Derived.Deep.CutRange
namespace Go.Proofs.Ytaiplhddbmhodaa
open Go.RowKit
set_option maxHeartbeats 1000000
set_option maxRecDepth 100000
set_option linter.unusedVariables false

theorem gtwo_t {m m' : Int} {zs ys : List Int} (h : gtwo m zs m' ys = true) : ∃ n : Nat, m = (n : Int) ∧ m' = (n : Int) ∧ GV n zs ∧ GV n ys := by
  unfold gtwo at h
  simp only [Bool.and_eq_true, decide_eq_true_eq] at h
  obtain ⟨h1, h2, h3⟩ := h
  obtain ⟨n, hn, gv⟩ := gradeOk_t h1
  subst h3
  exact ⟨n, hn, hn, gv, gv_of (by rw [← hn]; exact h2)⟩
theorem FnMulGrades_walk (A : Option Addr) (cap : Nat) (zs : List Int) (A' : Option Addr) (cap' : Nat) (ys : List Int) (w : World) (hz : IRow .u8 w w.heap.size A zs) (hc : zs.length ≤ cap) (hwf : ∀ z ∈ zs, (Lit.int .u8 z).wf = true) (hy : IRow .u8 w w.heap.size A' ys) (hc' : ys.length ≤ cap') (hwf' : ∀ z ∈ ys, (Lit.int .u8 z).wf = true) :
    Calls Try.prog 3 #[.slice A zs.length cap, .slice A' ys.length cap'] w fun e w' => e = .returned (.bool true) ∧ Below w.heap.size w w' := by
  have hl1 := hz.len
  have hl2 := hy.len
  have HB := Lib.hid (show ∀ z ∈ zs, 0 ≤ z ∧ z ≤ 255 from fun z hz => bounds_u8 (hwf z hz))
  have HB' := Lib.hid (show ∀ z ∈ ys, 0 ≤ z ∧ z ≤ 255 from fun z hz => bounds_u8 (hwf' z hz))
  have HY := Lib.hid hy
  have HC := Lib.hid hc'
  clear hwf hwf' hy hc'
  by_cases hs1 : (1048576 : Int) < (zs.length : Int)
  · go_enter Try.func3, Try.ntmps3
    go_wp2_with fail
    go_ret
    exact ⟨rfl, Below.refl _ _⟩
  by_cases hs2 : (1048576 : Int) < (ys.length : Int)
  · go_enter Try.func3, Try.ntmps3
    go_wp2_with fail
    go_ret
    exact ⟨rfl, Below.refl _ _⟩
  go_enter Try.func3, Try.ntmps3
  go_wp2_with fail
  refine (drawMulG_any _ _ _ _ hz hc HB.out).mono ?_
  rintro e w1 he
  obtain ⟨A1, A2, cap1, cap2, m, N, us, vs, rfl, O1, hl3, O2, hl4, HMV, HB1⟩ := he.form
  clear he hz HB
  obtain ⟨r, hr⟩ : ∃ r, r = gmulR m us (N : Int) vs := ⟨_, rfl⟩
  rcases r with _ | ⟨mr, rs⟩
  · have HR := Lib.hid hr
    clear hr
    have N1 := Lib.hid ((VA.new rfl O1.out hl3 (m := m)).al (MO A2 cap2 (N : Int) vs))
    have N2 := Lib.hid (VA.new (g := w1.heap.size + 1) (by simp) (O2.out.alloc (MO A1 cap1 m us)) hl4 (m := (N : Int)))
    have B1 := Lib.hid (below_al (below_al HB1.out (Nat.le_refl _) (MO A1 cap1 m us)) (Nat.le_refl _) (MO A2 cap2 (N : Int) vs))
    clear O1 O2 HB1
    go_wp2_with fail
    refine (iMulG_r _ _ 0 _ _ [] false _ _ _ _ _ N1.out.2.1 N2.out.2.1 hl3 hl4 (by rw [← HR.out]; rfl) (by rw [← HR.out]; rfl) (by rw [← HR.out]; rfl)).mono ?_
    rintro e w2 ⟨k3, A3, cap3, rfl, K3, O3, hl5, Hk⟩
    have F1 := Lib.hid (N1.out.below Hk.out)
    have F2 := Lib.hid (N2.out.below Hk.out)
    have B2 := Lib.hid (below_on B1.out Hk.out)
    clear N1 N2 B1 Hk
    obtain ⟨x0, x1⟩ := F1.out.cells
    have x2 := F1.out.lt
    obtain ⟨y0, y1⟩ := F2.out.cells
    have y2 := F2.out.lt
    have N1 := Lib.hid (F1.out.al (MO A3 cap3 k3 []))
    have N2 := Lib.hid (F2.out.al (MO A3 cap3 k3 []))
    have N3 := Lib.hid (VA.new rfl O3.out hl5 (m := k3))
    have B3 := Lib.hid (below_al B2.out (Nat.le_refl _) (MO A3 cap3 k3 []))
    clear F1 F2 O3 B2
    go_wp2_with fail
    refine (sMulG_r _ _ 0 _ _ [] false _ _ _ _ _ N1.out.2.1 N2.out.2.1 hl3 hl4 (by rw [← HR.out]; rfl) (by rw [← HR.out]; rfl) (by rw [← HR.out]; rfl)).mono ?_
    rintro e w3 ⟨k4, A4, cap4, rfl, K4, O4, hl6, Hk⟩
    have F1 := Lib.hid (N1.out.below Hk.out)
    have F2 := Lib.hid (N2.out.below Hk.out)
    have F3 := Lib.hid (N3.out.below Hk.out)
    have B4 := Lib.hid (below_on B3.out Hk.out)
    clear N1 N2 N3 B3 Hk x0 x1 x2 y0 y1 y2
    obtain ⟨x0, x1⟩ := F3.out.cells
    have x2 := F3.out.lt
    have N1 := Lib.hid (F1.out.al (MO A4 cap4 k4 []))
    have N2 := Lib.hid (F2.out.al (MO A4 cap4 k4 []))
    have N3 := Lib.hid (F3.out.al (MO A4 cap4 k4 []))
    have N4 := Lib.hid (VA.new rfl O4.out hl6 (m := k4))
    have B5 := Lib.hid (below_al B4.out (Nat.le_refl _) (MO A4 cap4 k4 []))
    clear F1 F2 F3 O4 B4
    go_wp2_with fail
    refine (da_r _ _ _ _ _ _ _ _ (K3.out.trans K4.out.symm) N3.out.2.1 N4.out.2.1 hl5).mono ?_
    rintro e w4 ⟨rfl, Hk⟩
    have F1 := Lib.hid (N1.out.below Hk.out)
    have F2 := Lib.hid (N2.out.below Hk.out)
    have F3 := Lib.hid (N3.out.below Hk.out)
    have F4 := Lib.hid (N4.out.below Hk.out)
    have B6 := Lib.hid (below_on B5.out Hk.out)
    clear N1 N2 N3 N4 B5 Hk x0 x1 x2
    obtain ⟨x0, x1⟩ := F3.out.cells
    have x2 := F3.out.lt
    obtain ⟨y0, y1⟩ := F4.out.cells
    have y2 := F4.out.lt
    go_wp2_with fail
    refine (da_r _ _ _ _ _ _ _ _ (K3.out.trans K4.out.symm) F3.out.2.1 F4.out.2.1 hl5).mono ?_
    rintro e w5 ⟨rfl, Hk⟩
    have B7 := Lib.hid (below_on B6.out Hk.out)
    go_wp2_with fail
    go_ret
    exact ⟨rfl, B7.out⟩
  · have hok : gtwo m us (N : Int) vs = true := by
      cases h : gtwo m us (N : Int) vs
      · unfold gmulR at hr; rw [h] at hr; simp at hr
      · rfl
    have hrs : some (mr, rs) = some (m, gmulL m.toNat us vs) := by rw [hr]; unfold gmulR; rw [if_pos hok]
    obtain ⟨N', hm, hN, ma, mb⟩ := gtwo_t hok
    have hN' : N = N' := by omega
    subst hN'
    simp only [hm, Int.toNat_natCast, Option.some.injEq, Prod.mk.injEq] at hrs
    obtain ⟨hmr, hrs⟩ := hrs
    have KA := Lib.hid hm
    have KR := Lib.hid hmr
    clear hN hm hmr
    have HR := Lib.hid hr
    have MA := Lib.hid ma
    have MB := Lib.hid mb
    have MR := Lib.hid (show GV N rs by rw [hrs]; exact gmulL_ok ma mb)
    have HRS := Lib.hid hrs.symm
    have n1 := ma.lo
    have n2 := ma.hi
    clear hr ma mb hrs hok
    have N1 := Lib.hid ((VA.new rfl O1.out hl3 (m := m)).al (MO A2 cap2 (N : Int) vs))
    have N2 := Lib.hid (VA.new (g := w1.heap.size + 1) (by simp) (O2.out.alloc (MO A1 cap1 m us)) hl4 (m := (N : Int)))
    have B1 := Lib.hid (below_al (below_al HB1.out (Nat.le_refl _) (MO A1 cap1 m us)) (Nat.le_refl _) (MO A2 cap2 (N : Int) vs))
    clear O1 O2 HB1
    go_wp2_with fail
    refine (iMulG_r _ _ mr _ _ rs true _ _ _ _ _ N1.out.2.1 N2.out.2.1 hl3 hl4 (by rw [← HR.out]; rfl) (by rw [← HR.out]; rfl) (by rw [← HR.out]; rfl)).mono ?_
    rintro e w2 ⟨k3, A3, cap3, rfl, K3, O3, hl5, Hk⟩
    have F1 := Lib.hid (N1.out.below Hk.out)
    have F2 := Lib.hid (N2.out.below Hk.out)
    have B2 := Lib.hid (below_on B1.out Hk.out)
    clear N1 N2 B1 Hk
    obtain ⟨x0, x1⟩ := F1.out.cells
    have x2 := F1.out.lt
    obtain ⟨y0, y1⟩ := F2.out.cells
    have y2 := F2.out.lt
    have N1 := Lib.hid (F1.out.al (MO A3 cap3 k3 rs))
    have N2 := Lib.hid (F2.out.al (MO A3 cap3 k3 rs))
    have N3 := Lib.hid (VA.new rfl O3.out hl5 (m := k3))
    have B3 := Lib.hid (below_al B2.out (Nat.le_refl _) (MO A3 cap3 k3 rs))
    clear F1 F2 O3 B2
    go_wp2_with fail
    refine (sMulG_r _ _ mr _ _ rs true _ _ _ _ _ N1.out.2.1 N2.out.2.1 hl3 hl4 (by rw [← HR.out]; rfl) (by rw [← HR.out]; rfl) (by rw [← HR.out]; rfl)).mono ?_
    rintro e w3 ⟨k4, A4, cap4, rfl, K4, O4, hl6, Hk⟩
    have F1 := Lib.hid (N1.out.below Hk.out)
    have F2 := Lib.hid (N2.out.below Hk.out)
    have F3 := Lib.hid (N3.out.below Hk.out)
    have B4 := Lib.hid (below_on B3.out Hk.out)
    clear N1 N2 N3 B3 Hk x0 x1 x2 y0 y1 y2
    obtain ⟨x0, x1⟩ := F3.out.cells
    have x2 := F3.out.lt
    have N1 := Lib.hid (F1.out.al (MO A4 cap4 k4 rs))
    have N2 := Lib.hid (F2.out.al (MO A4 cap4 k4 rs))
    have N3 := Lib.hid (F3.out.al (MO A4 cap4 k4 rs))
    have N4 := Lib.hid (VA.new rfl O4.out hl6 (m := k4))
    have B5 := Lib.hid (below_al B4.out (Nat.le_refl _) (MO A4 cap4 k4 rs))
    clear F1 F2 F3 O4 B4
    go_wp2_with fail
    refine (da_r _ _ _ _ _ _ _ _ (K3.out.trans K4.out.symm) N3.out.2.1 N4.out.2.1 hl5).mono ?_
    rintro e w4 ⟨rfl, Hk⟩
    have F1 := Lib.hid (N1.out.below Hk.out)
    have F2 := Lib.hid (N2.out.below Hk.out)
    have F3 := Lib.hid (N3.out.below Hk.out)
    have F4 := Lib.hid (N4.out.below Hk.out)
    have B6 := Lib.hid (below_on B5.out Hk.out)
    clear N1 N2 N3 N4 B5 Hk x0 x1 x2
    have KP := Lib.hid (K3.out.trans KR.out)
    clear K3 K4 KR
    go_wp2_with fail
    refine (drawIdem_any _ _ _ _ ((HY.out.below B6.out).more B6.out.size) HC.out HB'.out).mono ?_
    rintro e w5 he
    obtain ⟨A5, cap5, mc, cs, rfl, O5', hl7', Hk⟩ := he
    have O5 : Hid (OwnI w5 A5 cap5 cs) := own_base O5'.out (Nat.zero_le _)
    have hl7 : cs.length ≤ 1048577 := by omega
    clear O5' hl7'
    have N1 := Lib.hid ((F1.out.below Hk.out).al (MO A5 cap5 mc cs))
    have N2 := Lib.hid ((F2.out.below Hk.out).al (MO A5 cap5 mc cs))
    have N3 := Lib.hid ((F3.out.below Hk.out).al (MO A5 cap5 mc cs))
    have N5 := Lib.hid (VA.new rfl O5.out hl7 (m := mc))
    have B7 := Lib.hid (below_al (below_on B6.out Hk.out) (Nat.le_refl _) (MO A5 cap5 mc cs))
    have hne1 : ¬ w5.heap.size = w1.heap.size := by have := (F1.out.below Hk.out).lt; omega
    have hne2 : ¬ w5.heap.size = w1.heap.size + 1 := by have := (F2.out.below Hk.out).lt; omega
    have hne3 : ¬ w5.heap.size = w2.heap.size := by have := (F3.out.below Hk.out).lt; omega
    have HNE := Lib.hid (And.intro hne1 (And.intro hne2 hne3))
    have HSZ := Lib.hid (show w.heap.size ≤ w5.heap.size from Nat.le_trans B6.out.size Hk.out.size)
    clear F1 F2 F3 F4 B6 O5 Hk hne1 hne2 hne3
    obtain ⟨ok, hok⟩ : ∃ ok, gradeOk mc cs = ok := ⟨_, rfl⟩
    obtain ⟨bb, hbb⟩ : ∃ bb, bb = (!ok || mc != m) := ⟨_, rfl⟩
    have HOK := Lib.hid hok
    have HBB := Lib.hid hbb
    clear hok hbb
    go_upto_region 9 with fail
    go_cut [81] (fun c wx => c = .bool bb ∧ Hid (VA wx w1.heap.size A1 cap1 m us) ∧ Hid (VA wx (w1.heap.size + 1) A2 cap2 (N : Int) vs) ∧ Hid (VA wx w2.heap.size A3 cap3 k3 rs) ∧ Hid (VA wx w5.heap.size A5 cap5 mc cs) ∧ Hid (Below w.heap.size w wx))
    case first =>
      obtain ⟨x0, x1⟩ := N5.out.cells
      have x2 := N5.out.lt
      obtain ⟨y0, y1⟩ := N1.out.cells
      have y2 := N1.out.lt
      go_wp2_with fail
      refine (iGValid_r _ _ ok _ _ _ N5.out.2.1 hl7 HOK.out).mono ?_
      rintro e w6 ⟨rfl, Hk⟩
      have F1 := Lib.hid (N1.out.below Hk.out)
      have F2 := Lib.hid (N2.out.below Hk.out)
      have F3 := Lib.hid (N3.out.below Hk.out)
      have F5 := Lib.hid (N5.out.below Hk.out)
      have B8 := Lib.hid (below_on B7.out Hk.out)
      clear N1 N2 N3 N5 B7 Hk x0 x1 x2 y0 y1 y2
      obtain ⟨x0, x1⟩ := F5.out.cells
      have x2 := F5.out.lt
      obtain ⟨y0, y1⟩ := F1.out.cells
      have y2 := F1.out.lt
      rcases Bool.eq_false_or_eq_true ok with hko | hko
      · subst hko
        rcases Bool.eq_false_or_eq_true (mc != m) with hmn | hmn
        · have e : bb = true := by rw [HBB.out, hmn]; rfl
          subst e
          go_wp2_with fail
          go_meet
          exact ⟨by first | rfl | rw [hmn], F1, F2, F3, F5, B8⟩
        · have e : bb = false := by rw [HBB.out, hmn]; rfl
          subst e
          go_wp2_with fail
          go_meet
          exact ⟨by first | rfl | rw [hmn], F1, F2, F3, F5, B8⟩
      · subst hko
        have e : bb = true := by rw [HBB.out]; rfl
        subst e
        go_wp2_with fail
        go_meet
        exact ⟨rfl, F1, F2, F3, F5, B8⟩
    case rest =>
      clear N1 N2 N3 N5 B7
      obtain ⟨rfl, F1, F2, F3, F5, B8⟩ := hcut
      go_upto_if 81 with fail
      go_cut [] (fun wx => ∃ (kc : Int) (Ac : Option Addr) (capc : Nat) (qs : List Int), Hid (kc = (N : Int)) ∧ Hid (VA wx w1.heap.size A1 cap1 m us) ∧ Hid (VA wx (w1.heap.size + 1) A2 cap2 (N : Int) vs) ∧ Hid (VA wx w2.heap.size A3 cap3 k3 rs) ∧ Hid (VA wx w5.heap.size Ac capc kc qs) ∧ Hid (Below w.heap.size w wx) ∧ Hid (GV N qs) ∧ qs.length ≤ 1048577)
      case first =>
        rcases Bool.eq_false_or_eq_true bb with hb | hb
        · subst hb
          obtain ⟨x0, x1⟩ := F2.out.cells
          have x2 := F2.out.lt
          obtain ⟨y0, y1⟩ := two_cells F5.out.1
          obtain ⟨z0, z1⟩ := two_frozen F5.out.1
          go_wp2_with fail
          go_meet
          exact ⟨_, _, _, _, Lib.hid rfl, Lib.hid (F1.out.set2 F5.out.1 HNE.out.1 _ _), Lib.hid (F2.out.set2 F5.out.1 HNE.out.2.1 _ _), Lib.hid (F3.out.set2 F5.out.1 HNE.out.2.2 _ _), Lib.hid (VA.put F2.out.2.1 F2.out.2.2 F5.out.1), Lib.hid ((B8.out.setCell (p := ⟨w5.heap.size, 0, none⟩) (HSZ.out) _).setCell (p := ⟨w5.heap.size, 1, none⟩) (HSZ.out) _), MB, F2.out.2.2⟩
        · subst hb
          have hk : ok = true := by have := HBB.out; cases ok <;> simp at this ⊢
          have hm : mc = m := by have := HBB.out; rw [hk] at this; simpa using this
          subst hk
          have HKC := Lib.hid (hm.trans KA.out)
          have MC := Lib.hid (show GV N cs from gv_of (by rw [← HKC.out]; exact HOK.out))
          clear hm
          go_wp2_with fail
          go_meet
          exact ⟨_, _, _, _, HKC, F1, F2, F3, F5, B8, MC, F5.out.2.2⟩
      case rest =>
        clear F1 F2 F3 F5 B8 HNE HOK HBB hl7
        obtain ⟨kc, Ac, capc, qs, KC, F1, F2, F3, F5, B, HQ, hl7⟩ := hcut
        obtain ⟨C, hC⟩ : ∃ C, C = w5.heap.size := ⟨_, rfl⟩
        rw [← hC] at F5 ⊢
        clear hC
        obtain ⟨xs, hxs⟩ : ∃ r, gmulL N rs qs = r := ⟨_, rfl⟩
        have Mxs := Lib.hid (show GV N xs by rw [← hxs]; exact gmulL_ok MR.out HQ.out)
        have Exs := Lib.hid hxs
        clear hxs
        obtain ⟨bs, hbs⟩ : ∃ r, gmulL N vs qs = r := ⟨_, rfl⟩
        have Mbs := Lib.hid (show GV N bs by rw [← hbs]; exact gmulL_ok MB.out HQ.out)
        have Ebs := Lib.hid hbs
        clear hbs
        have EY := Lib.hid (show gmulL N us bs = xs by rw [← Ebs.out, ← Exs.out, ← HRS.out]; exact (gmulL_assoc N us vs qs).symm)
        obtain ⟨ns, hns⟩ : ∃ r, unitL N = r := ⟨_, rfl⟩
        have Mns := Lib.hid (show MV N ns by rw [← hns]; exact unitL_ok n1 n2)
        have Ens := Lib.hid hns
        clear hns
        obtain ⟨gs, hgs⟩ : ∃ r, gunitL N = r := ⟨_, rfl⟩
        have Mgs := Lib.hid (show GV N gs by rw [← hgs]; exact gunitL_ok n1 n2)
        have Egs := Lib.hid hgs
        clear hgs
        have EG := Lib.hid (show grL ns = gs by rw [← Ens.out, ← Egs.out]; exact grL_unit N)
        have EU := Lib.hid (show gmulL N us gs = us by rw [← Egs.out]; exact gmulL_unit MA.out)
        obtain ⟨c00, c01⟩ := F3.out.cells
        have c02 := F3.out.lt
        obtain ⟨c10, c11⟩ := F5.out.cells
        have c12 := F5.out.lt
        go_wp2_with fail
        refine (iMulG_v N _ _ _ _ xs _ _ _ _ _ KP.out KC.out MR.out HQ.out Exs.out F3.out.2.1 F5.out.2.1 F3.out.2.2 F5.out.2.2).mono ?_
        rintro e t10 ⟨k10, A10, cap10, rfl, K10, O10, hl10', Hk⟩
        have G1 := Lib.hid (F1.out.below Hk.out)
        have G2 := Lib.hid (F2.out.below Hk.out)
        have G3 := Lib.hid (F3.out.below Hk.out)
        have G5 := Lib.hid (F5.out.below Hk.out)
        have B10 := Lib.hid (below_on B.out Hk.out)
        clear F1 F2 F3 F5 B Hk c00 c01 c02 c10 c11 c12
        have F1 := G1
        have F2 := G2
        have F3 := G3
        have F5 := G5
        clear G1 G2 G3 G5
        obtain ⟨c00, c01⟩ := F2.out.cells
        have c02 := F2.out.lt
        obtain ⟨c10, c11⟩ := F5.out.cells
        have c12 := F5.out.lt
        have N1 := Lib.hid (F1.out.al (MO A10 cap10 k10 xs))
        have N2 := Lib.hid (F2.out.al (MO A10 cap10 k10 xs))
        have N3 := Lib.hid (F3.out.al (MO A10 cap10 k10 xs))
        have N5 := Lib.hid (F5.out.al (MO A10 cap10 k10 xs))
        have N10 := Lib.hid (VA.new rfl O10.out hl10' (m := k10))
        have BN := Lib.hid (below_al B10.out (Nat.le_refl _) (MO A10 cap10 k10 xs))
        clear F1 F2 F3 F5 O10 B10
        go_wp2_with fail
        refine (iMulG_v N _ _ _ _ bs _ _ _ _ _ rfl KC.out MB.out HQ.out Ebs.out N2.out.2.1 N5.out.2.1 N2.out.2.2 N5.out.2.2).mono ?_
        rintro e t11 ⟨k11, A11, cap11, rfl, K11, O11, hl11', Hk⟩
        have G1 := Lib.hid (N1.out.below Hk.out)
        have G2 := Lib.hid (N2.out.below Hk.out)
        have G3 := Lib.hid (N3.out.below Hk.out)
        have G5 := Lib.hid (N5.out.below Hk.out)
        have G10 := Lib.hid (N10.out.below Hk.out)
        have B11 := Lib.hid (below_on BN.out Hk.out)
        clear N1 N2 N3 N5 N10 BN Hk c00 c01 c02 c10 c11 c12
        have F1 := G1
        have F2 := G2
        have F3 := G3
        have F5 := G5
        have F10 := G10
        clear G1 G2 G3 G5 G10
        obtain ⟨c00, c01⟩ := F1.out.cells
        have c02 := F1.out.lt
        have N1 := Lib.hid (F1.out.al (MO A11 cap11 k11 bs))
        have N2 := Lib.hid (F2.out.al (MO A11 cap11 k11 bs))
        have N3 := Lib.hid (F3.out.al (MO A11 cap11 k11 bs))
        have N5 := Lib.hid (F5.out.al (MO A11 cap11 k11 bs))
        have N10 := Lib.hid (F10.out.al (MO A11 cap11 k11 bs))
        have N11 := Lib.hid (VA.new rfl O11.out hl11' (m := k11))
        have BN := Lib.hid (below_al B11.out (Nat.le_refl _) (MO A11 cap11 k11 bs))
        clear F1 F2 F3 F5 F10 O11 B11
        go_wp2_with fail
        refine (iMulG_v N _ _ _ _ xs _ _ _ _ _ KA.out K11.out MA.out Mbs.out EY.out N1.out.2.1 N11.out.2.1 N1.out.2.2 N11.out.2.2).mono ?_
        rintro e t12 ⟨k12, A12, cap12, rfl, K12, O12, hl12', Hk⟩
        have G1 := Lib.hid (N1.out.below Hk.out)
        have G2 := Lib.hid (N2.out.below Hk.out)
        have G3 := Lib.hid (N3.out.below Hk.out)
        have G5 := Lib.hid (N5.out.below Hk.out)
        have G10 := Lib.hid (N10.out.below Hk.out)
        have G11 := Lib.hid (N11.out.below Hk.out)
        have B12 := Lib.hid (below_on BN.out Hk.out)
        clear N1 N2 N3 N5 N10 N11 BN Hk c00 c01 c02
        have F1 := G1
        have F2 := G2
        have F3 := G3
        have F5 := G5
        have F10 := G10
        have F11 := G11
        clear G1 G2 G3 G5 G10 G11
        obtain ⟨c00, c01⟩ := F1.out.cells
        have c02 := F1.out.lt
        have N1 := Lib.hid (F1.out.al (MO A12 cap12 k12 xs))
        have N2 := Lib.hid (F2.out.al (MO A12 cap12 k12 xs))
        have N3 := Lib.hid (F3.out.al (MO A12 cap12 k12 xs))
        have N5 := Lib.hid (F5.out.al (MO A12 cap12 k12 xs))
        have N10 := Lib.hid (F10.out.al (MO A12 cap12 k12 xs))
        have N11 := Lib.hid (F11.out.al (MO A12 cap12 k12 xs))
        have N12 := Lib.hid (VA.new rfl O12.out hl12' (m := k12))
        have BN := Lib.hid (below_al B12.out (Nat.le_refl _) (MO A12 cap12 k12 xs))
        clear F1 F2 F3 F5 F10 F11 O12 B12
        go_wp2_with fail
        refine (iUnit_v N _ ns _ KA.out n1 n2 Ens.out).mono ?_
        rintro e t13 ⟨k13, A13, cap13, rfl, K13, O13, hl13', Hk⟩
        have G1 := Lib.hid (N1.out.below Hk.out)
        have G2 := Lib.hid (N2.out.below Hk.out)
        have G3 := Lib.hid (N3.out.below Hk.out)
        have G5 := Lib.hid (N5.out.below Hk.out)
        have G10 := Lib.hid (N10.out.below Hk.out)
        have G11 := Lib.hid (N11.out.below Hk.out)
        have G12 := Lib.hid (N12.out.below Hk.out)
        have B13 := Lib.hid (below_on BN.out Hk.out)
        clear N1 N2 N3 N5 N10 N11 N12 BN Hk c00 c01 c02
        have F1 := G1
        have F2 := G2
        have F3 := G3
        have F5 := G5
        have F10 := G10
        have F11 := G11
        have F12 := G12
        clear G1 G2 G3 G5 G10 G11 G12
        have N1 := Lib.hid (F1.out.al (MO A13 cap13 k13 ns))
        have N2 := Lib.hid (F2.out.al (MO A13 cap13 k13 ns))
        have N3 := Lib.hid (F3.out.al (MO A13 cap13 k13 ns))
        have N5 := Lib.hid (F5.out.al (MO A13 cap13 k13 ns))
        have N10 := Lib.hid (F10.out.al (MO A13 cap13 k13 ns))
        have N11 := Lib.hid (F11.out.al (MO A13 cap13 k13 ns))
        have N12 := Lib.hid (F12.out.al (MO A13 cap13 k13 ns))
        have N13 := Lib.hid (VA.new rfl O13.out hl13' (m := k13))
        have BN := Lib.hid (below_al B13.out (Nat.le_refl _) (MO A13 cap13 k13 ns))
        clear F1 F2 F3 F5 F10 F11 F12 O13 B13
        go_wp2_with fail
        refine (iGOfUnit_v N _ _ gs _ _ _ K13.out Mns.out EG.out N13.out.2.1 N13.out.2.2).mono ?_
        rintro e t14 ⟨k14, A14, cap14, rfl, K14, O14, hl14', Hk⟩
        have G1 := Lib.hid (N1.out.below Hk.out)
        have G2 := Lib.hid (N2.out.below Hk.out)
        have G3 := Lib.hid (N3.out.below Hk.out)
        have G5 := Lib.hid (N5.out.below Hk.out)
        have G10 := Lib.hid (N10.out.below Hk.out)
        have G11 := Lib.hid (N11.out.below Hk.out)
        have G12 := Lib.hid (N12.out.below Hk.out)
        have G13 := Lib.hid (N13.out.below Hk.out)
        have B14 := Lib.hid (below_on BN.out Hk.out)
        clear N1 N2 N3 N5 N10 N11 N12 N13 BN Hk
        have F1 := G1
        have F2 := G2
        have F3 := G3
        have F5 := G5
        have F10 := G10
        have F11 := G11
        have F12 := G12
        have F13 := G13
        clear G1 G2 G3 G5 G10 G11 G12 G13
        obtain ⟨c00, c01⟩ := F1.out.cells
        have c02 := F1.out.lt
        have N1 := Lib.hid (F1.out.al (MO A14 cap14 k14 gs))
        have N2 := Lib.hid (F2.out.al (MO A14 cap14 k14 gs))
        have N3 := Lib.hid (F3.out.al (MO A14 cap14 k14 gs))
        have N5 := Lib.hid (F5.out.al (MO A14 cap14 k14 gs))
        have N10 := Lib.hid (F10.out.al (MO A14 cap14 k14 gs))
        have N11 := Lib.hid (F11.out.al (MO A14 cap14 k14 gs))
        have N12 := Lib.hid (F12.out.al (MO A14 cap14 k14 gs))
        have N13 := Lib.hid (F13.out.al (MO A14 cap14 k14 gs))
        have N14 := Lib.hid (VA.new rfl O14.out hl14' (m := k14))
        have BN := Lib.hid (below_al B14.out (Nat.le_refl _) (MO A14 cap14 k14 gs))
        clear F1 F2 F3 F5 F10 F11 F12 F13 O14 B14
        go_wp2_with fail
        refine (iMulG_v N _ _ _ _ us _ _ _ _ _ KA.out K14.out MA.out Mgs.out EU.out N1.out.2.1 N14.out.2.1 N1.out.2.2 N14.out.2.2).mono ?_
        rintro e t15 ⟨k15, A15, cap15, rfl, K15, O15, hl15', Hk⟩
        have G1 := Lib.hid (N1.out.below Hk.out)
        have G2 := Lib.hid (N2.out.below Hk.out)
        have G3 := Lib.hid (N3.out.below Hk.out)
        have G5 := Lib.hid (N5.out.below Hk.out)
        have G10 := Lib.hid (N10.out.below Hk.out)
        have G11 := Lib.hid (N11.out.below Hk.out)
        have G12 := Lib.hid (N12.out.below Hk.out)
        have G13 := Lib.hid (N13.out.below Hk.out)
        have G14 := Lib.hid (N14.out.below Hk.out)
        have B15 := Lib.hid (below_on BN.out Hk.out)
        clear N1 N2 N3 N5 N10 N11 N12 N13 N14 BN Hk c00 c01 c02
        have F1 := G1
        have F2 := G2
        have F3 := G3
        have F5 := G5
        have F10 := G10
        have F11 := G11
        have F12 := G12
        have F13 := G13
        have F14 := G14
        clear G1 G2 G3 G5 G10 G11 G12 G13 G14
        obtain ⟨c00, c01⟩ := F3.out.cells
        have c02 := F3.out.lt
        have N1 := Lib.hid (F1.out.al (MO A15 cap15 k15 us))
        have N2 := Lib.hid (F2.out.al (MO A15 cap15 k15 us))
        have N3 := Lib.hid (F3.out.al (MO A15 cap15 k15 us))
        have N5 := Lib.hid (F5.out.al (MO A15 cap15 k15 us))
        have N10 := Lib.hid (F10.out.al (MO A15 cap15 k15 us))
        have N11 := Lib.hid (F11.out.al (MO A15 cap15 k15 us))
        have N12 := Lib.hid (F12.out.al (MO A15 cap15 k15 us))
        have N13 := Lib.hid (F13.out.al (MO A15 cap15 k15 us))
        have N14 := Lib.hid (F14.out.al (MO A15 cap15 k15 us))
        have N15 := Lib.hid (VA.new rfl O15.out hl15' (m := k15))
        have BN := Lib.hid (below_al B15.out (Nat.le_refl _) (MO A15 cap15 k15 us))
        clear F1 F2 F3 F5 F10 F11 F12 F13 F14 O15 B15
        go_wp2_with fail
        refine (iGValid_r _ _ true _ _ _ N3.out.2.1 N3.out.2.2 (by rw [KP.out]; exact gradeOk_mk MR.out)).mono ?_
        rintro e t16 ⟨rfl, Hk⟩
        have G1 := Lib.hid (N1.out.below Hk.out)
        have G2 := Lib.hid (N2.out.below Hk.out)
        have G3 := Lib.hid (N3.out.below Hk.out)
        have G5 := Lib.hid (N5.out.below Hk.out)
        have G10 := Lib.hid (N10.out.below Hk.out)
        have G11 := Lib.hid (N11.out.below Hk.out)
        have G12 := Lib.hid (N12.out.below Hk.out)
        have G13 := Lib.hid (N13.out.below Hk.out)
        have G14 := Lib.hid (N14.out.below Hk.out)
        have G15 := Lib.hid (N15.out.below Hk.out)
        have B16 := Lib.hid (below_on BN.out Hk.out)
        clear N1 N2 N3 N5 N10 N11 N12 N13 N14 N15 BN Hk c00 c01 c02
        have F1 := G1
        have F2 := G2
        have F3 := G3
        have F5 := G5
        have F10 := G10
        have F11 := G11
        have F12 := G12
        have F13 := G13
        have F14 := G14
        have F15 := G15
        clear G1 G2 G3 G5 G10 G11 G12 G13 G14 G15
        obtain ⟨c00, c01⟩ := F10.out.cells
        have c02 := F10.out.lt
        obtain ⟨c10, c11⟩ := F12.out.cells
        have c12 := F12.out.lt
        go_wp2_with fail
        refine (da_r _ _ _ _ _ _ _ _ (K10.out.trans K12.out.symm) F10.out.2.1 F12.out.2.1 F10.out.2.2).mono ?_
        rintro e t17 ⟨rfl, Hk⟩
        have G1 := Lib.hid (F1.out.below Hk.out)
        have G2 := Lib.hid (F2.out.below Hk.out)
        have G3 := Lib.hid (F3.out.below Hk.out)
        have G5 := Lib.hid (F5.out.below Hk.out)
        have G10 := Lib.hid (F10.out.below Hk.out)
        have G11 := Lib.hid (F11.out.below Hk.out)
        have G12 := Lib.hid (F12.out.below Hk.out)
        have G13 := Lib.hid (F13.out.below Hk.out)
        have G14 := Lib.hid (F14.out.below Hk.out)
        have G15 := Lib.hid (F15.out.below Hk.out)
        have B17 := Lib.hid (below_on B16.out Hk.out)
        clear F1 F2 F3 F5 F10 F11 F12 F13 F14 F15 B16 Hk c00 c01 c02 c10 c11 c12
        have F1 := G1
        have F2 := G2
        have F3 := G3
        have F5 := G5
        have F10 := G10
        have F11 := G11
        have F12 := G12
        have F13 := G13
        have F14 := G14
        have F15 := G15
        clear G1 G2 G3 G5 G10 G11 G12 G13 G14 G15
        obtain ⟨c00, c01⟩ := F15.out.cells
        have c02 := F15.out.lt
        obtain ⟨c10, c11⟩ := F1.out.cells
        have c12 := F1.out.lt
        go_wp2_with fail
        refine (da_r _ _ _ _ _ _ _ _ (K15.out.trans KA.out.symm) F15.out.2.1 F1.out.2.1 F15.out.2.2).mono ?_
        rintro e t18 ⟨rfl, Hk⟩
        have G1 := Lib.hid (F1.out.below Hk.out)
        have G2 := Lib.hid (F2.out.below Hk.out)
        have G3 := Lib.hid (F3.out.below Hk.out)
        have G5 := Lib.hid (F5.out.below Hk.out)
        have G10 := Lib.hid (F10.out.below Hk.out)
        have G11 := Lib.hid (F11.out.below Hk.out)
        have G12 := Lib.hid (F12.out.below Hk.out)
        have G13 := Lib.hid (F13.out.below Hk.out)
        have G14 := Lib.hid (F14.out.below Hk.out)
        have G15 := Lib.hid (F15.out.below Hk.out)
        have B18 := Lib.hid (below_on B17.out Hk.out)
        clear F1 F2 F3 F5 F10 F11 F12 F13 F14 F15 B17 Hk c00 c01 c02 c10 c11 c12
        have F1 := G1
        have F2 := G2
        have F3 := G3
        have F5 := G5
        have F10 := G10
        have F11 := G11
        have F12 := G12
        have F13 := G13
        have F14 := G14
        have F15 := G15
        clear G1 G2 G3 G5 G10 G11 G12 G13 G14 G15
        go_wp2_with fail
        go_ret
        exact ⟨rfl, B18.out⟩
end Go.Proofs.Ytaiplhddbmhodaa
