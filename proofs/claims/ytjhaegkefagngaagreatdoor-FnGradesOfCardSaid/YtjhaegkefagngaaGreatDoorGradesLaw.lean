/- The walk of the law of grades of words: it returns true for all inputs, and nothing that was there changes. No condition. -/
import Derived.Test.YtjhaegkefagngaaGreatDoorGWord
import Derived.Test.YtjhaegkefagngaaGreatDoorAVar
import Derived.Test.YtjhaegkefagngaaGreatDoorBadA
import Derived.Test.YtjhaegkefagngaaGreatDoorDaAny
import Derived.Deep.DeepCutAuto
import Derived.Deep.CutRange
import Derived.OpenShut
import Derived.Test.YtjhaegkefagngaaGreatDoorStepM
namespace Go.Proofs.YtjhaegkefagngaaGreatDoor
open Go.RowKit
set_option maxHeartbeats 8000000
set_option maxRecDepth 100000
set_option linter.unusedVariables false

theorem iGOf_w (n : Nat) (k : Int) (zs rs : List Int) (A : Option Addr) (cap : Nat) (w : World) (hk : k = (n : Int)) (hm : MV n zs) (hr : grL zs = rs) (hz : OwnI w A cap zs) (hl : zs.length ≤ 1048577) :
    Calls Tryz.prog 14 #[.agg #[.int .i64 k, .slice A zs.length cap]] w fun e w' => REnd n rs true w e w' := by
  subst hk
  have e : gofR (n : Int) zs = some ((n : Int), rs) := by unfold gofR; rw [if_pos (matOk_mk hm), hr]
  exact (iGradesOf_any _ A cap zs w (hz.ints hl)).mono fun e' w' h => h.form (by rw [e]; rfl) (by rw [e]; rfl) (by rw [e]; rfl)
theorem iMulG_w (n : Nat) (k k' : Int) (zs ys rs : List Int) (A A' : Option Addr) (cap cap' : Nat) (w : World) (hk : k = (n : Int)) (hk' : k' = (n : Int)) (ha : GV n zs) (hb : GV n ys) (hr : gmulL n zs ys = rs) (hz : OwnI w A cap zs) (hy : OwnI w A' cap' ys) (hl : zs.length ≤ 1048577) (hl' : ys.length ≤ 1048577) :
    Calls Tryz.prog 17 #[.agg #[.int .i64 k, .slice A zs.length cap], .agg #[.int .i64 k', .slice A' ys.length cap']] w fun e w' => REnd n rs true w e w' := by
  subst hk
  subst hk'
  have e : gmulR (n : Int) zs (n : Int) ys = some ((n : Int), rs) := by rw [gtwo_4 (gradeOk_mk ha) (gradeOk_mk hb), hr]
  exact (iMulGrades_any _ _ A A' cap cap' zs ys w (hz.ints hl) (hy.ints hl')).mono fun e' w' h => h.form (by rw [e]; rfl) (by rw [e]; rfl) (by rw [e]; rfl)
theorem iStep_w (n : Nat) (A1 A2 A3 : Option Addr) (c1 c2 c3 : Nat) (xs ys : List Int) (ss : List StepD) (l : ByteArray) (w : World) (hok : autoOk n xs ys ss = true) (hl : letOk l = true) (h : AR w A1 A2 A3 xs ys ss) :
    Calls Tryz.prog 16 #[.agg #[.int .i64 n, .slice A1 xs.length c1, .slice A2 ys.length c2, .slice A3 ss.length c3], .string l] w fun e w' => REnd n (stepL n ss l) true w e w' :=
  (iStepMatrix_any n A1 A2 A3 c1 c2 c3 xs ys ss l w h.i1 h.i2 h.s3).mono fun e w' h => h.form (by rw [stepR_some hok hl]; rfl) (by rw [stepR_some hok hl]; rfl) (by rw [stepR_some hok hl]; rfl)
theorem iUnit_w (n : Nat) (w : World) (n1 : 1 ≤ n) (n2 : n ≤ 4) :
    Calls Tryz.prog 15 #[.int .i64 n] w fun e w' => REnd n (unitL n) true w e w' := by
  have e : unitR (n : Int) = some ((n : Int), unitL n) := by unfold unitR; rw [if_pos ⟨by omega, by omega⟩]; rfl
  exact iUnit_r n n (unitL n) true w (by rw [e]; rfl) (by rw [e]; rfl) (by rw [e]; rfl)
theorem letter_of {l : ByteArray} (hw : wordOk l = true) {k : Nat} (hk : k < l.size) : ∃ b : UInt8, l.extract k (k + 1) = ltr b ∧ letOk (ltr b) = true ∧ l.data.toList.take (k + 1) = l.data.toList.take k ++ [b] := by
  obtain ⟨h1, h2⟩ := wordOk_in hw
  have hl : k < l.data.toList.length := by simpa using hk
  refine ⟨l.data.toList[k], ?_, ?_, List.take_succ_eq_append_getElem hl⟩
  · apply ByteArray.ext
    rw [← Array.toList_inj, ByteArray.data_extract, Array.toList_extract, List.extract_eq_take_drop]
    have e : k + 1 - k = 1 := by omega
    rw [e, List.drop_eq_getElem_cons hl, List.take_succ_cons, List.take_zero]
    rfl
  · have h3 := List.all_eq_true.1 h2 _ (List.getElem_mem hl)
    have hb := isAB_cases h3
    unfold letOk
    rw [ByteArray.toList_eq]
    rcases hb with hb | hb <;> rw [hb] <;> rfl
theorem FnGradesOf_walk (A : Option Addr) (cap : Nat) (zs : List Int) (w : World) (hz : IRow .u8 w w.heap.size A zs) (hc : zs.length ≤ cap) (hwf : ∀ z ∈ zs, (Lit.int .u8 z).wf = true) :
    Calls Tryz.prog 4 #[.slice A zs.length cap] w fun e w' => e = .returned (.bool true) ∧ Below w.heap.size w w' := by
  have hl1 := hz.len
  have HB := Lib.hid (show ∀ z ∈ zs, 0 ≤ z ∧ z ≤ 255 from fun z hz => bounds_u8 (hwf z hz))
  clear hwf
  by_cases hs1 : (1048576 : Int) < (zs.length : Int)
  · go_enter Tryz.func4, Tryz.ntmps4
    go_wp2_with fail
    go_ret
    exact ⟨rfl, Below.refl _ _⟩
  go_enter Tryz.func4, Tryz.ntmps4
  go_wp2_with fail
  refine (drawWM_any _ _ _ _ hz hc HB.out).mono ?_
  rintro e w1 ⟨m, x1, x2, x3, xs, ys, ss, l, rfl, ho, hf, hl10, hb1⟩
  obtain ⟨A1, c1, A2, c2, A3, c3, rfl, rfl, rfl⟩ := ho.out.forms
  have R1 := Lib.hid (AR.of ho.out)
  have hll : Hid (l.size ≤ maxLen) := by show _ ≤ _; unfold maxLen; omega
  obtain ⟨r, hr⟩ : ∃ r, wordR m xs ys ss l = r := ⟨_, rfl⟩
  obtain ⟨mr, hmr⟩ : ∃ mr, (r.getD (0, [])).1 = mr := ⟨_, rfl⟩
  obtain ⟨rs, hrs⟩ : ∃ rs, (r.getD (0, [])).2 = rs := ⟨_, rfl⟩
  obtain ⟨ok, hok⟩ : ∃ ok, r.isSome = ok := ⟨_, rfl⟩
  have HR := Lib.hid hr
  have H1 := Lib.hid hmr
  have H2 := Lib.hid hrs
  have H3 := Lib.hid hok
  clear hr hmr hrs hok
  have V1 := Lib.hid (AV.new rfl R1.out (m := m) (c1 := c1) (c2 := c2) (c3 := c3))
  have B1 := Lib.hid (below_al hb1.out (Nat.le_refl _) (AO m A1 A2 A3 c1 c2 c3 xs ys ss))
  clear R1 ho hb1 hf hz hc HB
  go_wp2_with fail
  refine (iWord_r mr rs ok hll.out V1.out.2 (by rw [HR.out]; exact H1.out) (by rw [HR.out]; exact H2.out) (by rw [HR.out]; exact H3.out)).mono ?_
  rintro e w2 ⟨k2, A4, cap4, rfl, K2, O2, hl4, Hk⟩
  have V2 := Lib.hid (V1.out.below Hk.out)
  have B2 := Lib.hid (below_on B1.out Hk.out)
  clear V1 B1 Hk
  obtain ⟨x0, x1, x2, x3⟩ := V2.out.cells
  have xl := V2.out.lt
  have V3 := Lib.hid (V2.out.al (MO A4 cap4 k2 rs))
  have M3 := Lib.hid (VA.new rfl O2.out hl4 (m := k2))
  have B3 := Lib.hid (below_al B2.out (Nat.le_refl _) (MO A4 cap4 k2 rs))
  clear V2 O2 B2
  go_wp2_with fail
  refine (sWord_r mr rs ok hll.out V3.out.2 (by rw [HR.out]; exact H1.out) (by rw [HR.out]; exact H2.out) (by rw [HR.out]; exact H3.out)).mono ?_
  rintro e w3 ⟨k3, A5, cap5, rfl, K3, O3, hl5, Hk⟩
  have V4 := Lib.hid (V3.out.below Hk.out)
  have M4 := Lib.hid (M3.out.below Hk.out)
  have B4 := Lib.hid (below_on B3.out Hk.out)
  clear V3 M3 B3 Hk x0 x1 x2 x3 xl
  obtain ⟨y0, y1⟩ := M4.out.cells
  have y2 := M4.out.lt
  have V5 := Lib.hid (V4.out.al (MO A5 cap5 k3 rs))
  have M5 := Lib.hid (M4.out.al (MO A5 cap5 k3 rs))
  have W5 := Lib.hid (VA.new rfl O3.out hl5 (m := k3))
  have B5 := Lib.hid (below_al B4.out (Nat.le_refl _) (MO A5 cap5 k3 rs))
  clear V4 M4 O3 B4
  go_wp2_with fail
  refine (da_r _ _ _ _ _ _ _ _ (K2.out.trans K3.out.symm) M5.out.2.1 W5.out.2.1 hl4).mono ?_
  rintro e w4 ⟨rfl, Hk⟩
  have V6 := Lib.hid (V5.out.below Hk.out)
  have M6 := Lib.hid (M5.out.below Hk.out)
  have W6 := Lib.hid (W5.out.below Hk.out)
  have B6 := Lib.hid (below_on B5.out Hk.out)
  clear V5 M5 W5 B5 Hk y0 y1 y2
  cases ok
  · obtain ⟨y0, y1⟩ := M6.out.cells
    have y2 := M6.out.lt
    obtain ⟨z0, z1⟩ := W6.out.cells
    have z2 := W6.out.lt
    go_wp2_with fail
    refine (da_r _ _ _ _ _ _ _ _ (K2.out.trans K3.out.symm) M6.out.2.1 W6.out.2.1 hl4).mono ?_
    rintro e w5 ⟨rfl, Hk⟩
    have B7 := Lib.hid (below_on B6.out Hk.out)
    go_wp2_with fail
    go_ret
    exact ⟨rfl, B7.out⟩
  obtain ⟨n, rfl, hok, hwk⟩ := word_good (by rw [HR.out]; exact H3.out)
  obtain ⟨n', hn', n1, n2, hxi, hyi, _, hsi⟩ := auto_in hok
  obtain rfl : n = n' := by omega
  clear hn' hxi hyi
  have EM : Hid (k2 = (n : Int)) := by
    show _ = _
    rw [K2.out, ← H1.out, ← HR.out, wordR_some hok hwk]; rfl
  have ER : Hid (rs = prodL n ss l.data.toList) := by
    show _ = _
    rw [← H2.out, ← HR.out, wordR_some hok hwk]; rfl
  have MR : Hid (MV n rs) := by show _; rw [ER.out]; exact prodL_ok n1 n2 hsi _
  have HOK := Lib.hid hok
  have HWK := Lib.hid hwk
  have HSI := Lib.hid hsi
  obtain ⟨gs, hgs⟩ : ∃ gs, grL rs = gs := ⟨_, rfl⟩
  have HG := Lib.hid hgs
  obtain ⟨z, hz'⟩ : ∃ z, costF n xs ys ss l.data.toList = z := ⟨_, rfl⟩
  have HBW := bet_word (l := l.data.toList) hok
  rw [hz', ← ER.out, hgs] at HBW
  have HZB := HBW.2
  have HBE := Lib.hid HBW.1
  have HCO : Hid (costR n xs ys ss l = z) := by show _ = _; rw [costR_some hok hwk]; exact hz'
  obtain ⟨gz, hgz⟩ : ∃ gz, gr z = gz := ⟨_, rfl⟩
  rw [hgz] at HBE
  obtain ⟨b0, hb0⟩ : ∃ b, (z == 0) = b := ⟨_, rfl⟩
  obtain ⟨b3, hb3⟩ : ∃ b, (z == 1000000) = b := ⟨_, rfl⟩
  have G0 : Hid ((gz == 0) = b0) := by show _ = _; rw [← hgz, gr_zero HZB, hb0]
  have G3 : Hid ((gz == 3) = b3) := by show _ = _; rw [← hgz, gr_never HZB, hb3]
  have C0 := Lib.hid hb0
  have C3 := Lib.hid hb3
  have GOK : Hid (gradeOk (n : Int) gs = true) := by show _ = _; rw [← hgs]; exact gradeOk_mk (grL_ok MR.out)
  clear hok hwk hsi hgs hz' HBW HZB hgz hb0 hb3 H1 H2 H3 HR K3 W6
  obtain ⟨y0, y1⟩ := M6.out.cells
  have y2 := M6.out.lt
  go_wp2_with fail
  refine (iGOf_w n k2 rs gs _ _ _ EM.out MR.out HG.out M6.out.2.1 M6.out.2.2).mono ?_
  rintro e w5 ⟨k5, A5', cap5', rfl, K5, O5, hl5', Hk⟩
  have V7 := Lib.hid (V6.out.below Hk.out)
  have B7 := Lib.hid (below_on B6.out Hk.out)
  clear V6 M6 B6 Hk y0 y1 y2
  obtain ⟨x0, x1, x2, x3⟩ := V7.out.cells
  have xl := V7.out.lt
  have V8 := Lib.hid (V7.out.al (MO A5' cap5' k5 gs))
  have G8 := Lib.hid (VA.new rfl O5.out hl5' (m := k5))
  have B8 := Lib.hid (below_al B7.out (Nat.le_refl _) (MO A5' cap5' k5 gs))
  clear V7 O5 B7
  go_wp2_with fail
  refine (iUnit_w n _ n1 n2).mono ?_
  rintro e w6 ⟨k6, A6, cap6, rfl, K6, O6, hl6, Hk⟩
  have V9 := Lib.hid (V8.out.below Hk.out)
  have G9 := Lib.hid (G8.out.below Hk.out)
  have B9 := Lib.hid (below_on B8.out Hk.out)
  clear V8 G8 B8 Hk x0 x1 x2 x3 xl
  have V10 := Lib.hid (V9.out.al (MO A6 cap6 k6 (unitL n)))
  have G10 := Lib.hid (G9.out.al (MO A6 cap6 k6 (unitL n)))
  have U10 := Lib.hid (VA.new rfl O6.out hl6 (m := k6))
  have B10 := Lib.hid (below_al B9.out (Nat.le_refl _) (MO A6 cap6 k6 (unitL n)))
  clear V9 G9 O6 B9
  obtain ⟨us, hus⟩ : ∃ us, grL (unitL n) = us := ⟨_, rfl⟩
  have HU := Lib.hid hus
  clear hus
  go_wp2_with fail
  refine (iGOf_w n k6 (unitL n) us _ _ _ K6.out (unitL_ok n1 n2) HU.out U10.out.2.1 U10.out.2.2).mono ?_
  rintro e w7 ⟨k7, A7, cap7, rfl, K7, O7, hl7, Hk⟩
  have V11 := Lib.hid (V10.out.below Hk.out)
  have G11 := Lib.hid (G10.out.below Hk.out)
  have B11 := Lib.hid (below_on B10.out Hk.out)
  clear V10 G10 U10 B10 Hk
  have P0 := Lib.hid (VA.new rfl O7.out hl7 (m := k7))
  have H0 := Lib.hid (below_a1 w7 (MO A7 cap7 k7 us))
  have hl10' : (l.size : Int) ≤ 10 := by omega
  clear O7
  go_wp2_with fail
  go_loopw [81] (fun i wr => ∃ (k : Nat) (kp : Int) (Ap : Option Addr) (capp : Nat) (ps : List Int), k ≤ l.size ∧ i = .int .i64 k ∧ Hid (VA wr w7.heap.size Ap capp kp ps) ∧ Hid (kp = (n : Int)) ∧ Hid (ps = grL (prodL n ss (l.data.toList.take k))) ∧ Hid (Below w7.heap.size w7 wr)) (fun i _ => l.size - (intOf i).toNat)
  case atStart => exact ⟨0, k7, A7, cap7, us, Nat.zero_le _, rfl, P0, K7, HU.out.symm, H0⟩
  case round =>
    obtain ⟨k, kp, Ap, capp, ps, hk, rfl, HP, KP, EP, HBr⟩ := hrel
    by_cases hlt : k < l.size
    · obtain ⟨b, hle, hlk, htk⟩ := letter_of HWK.out hlt
      have VR := Lib.hid (V11.out.below HBr.out)
      obtain ⟨le, hle'⟩ : ∃ le, le = ltr b := ⟨_, rfl⟩
      obtain ⟨st, hst⟩ : ∃ st, st = stepL n ss le := ⟨_, rfl⟩
      have HLK : Hid (letOk le = true) := by show _ = _; rw [hle']; exact hlk
      have HLE : Hid (l.extract k (k + 1) = le) := by show _ = _; rw [hle']; exact hle
      have MS : Hid (MV n st) := by show _; rw [hst]; exact stepL_ok n1 n2 HSI.out _
      have HST := Lib.hid hst
      have NX : Hid (gmulL n ps (grL st) = grL (prodL n ss (l.data.toList.take (k + 1)))) := by
        show _ = _
        rw [EP.out, hst, hle', htk]
        exact grL_next n1 n2 HSI.out _ _ (by rw [List.length_take]; omega)
      have GP : Hid (GV n ps) := by show _; rw [EP.out]; exact grL_ok (prodL_ok n1 n2 HSI.out _)
      have hk0 : (0 : Int) ≤ (k : Int) := by omega
      have hk1 : (k : Int) < (l.size : Int) := by omega
      have hk2 : (k : Int) + 1 ≤ (l.size : Int) := by omega
      have hk3 : (k : Int) ≤ (k : Int) + 1 := by omega
      have hk4 : (0 : Int) ≤ (k : Int) + 1 := by omega
      have hk5 : ((k : Int) + 1).toNat = k + 1 := by omega
      have WRK : Hid (IntKind.i64.wrap ((k : Int) + 1) = (k : Int) + 1) := IntWalk.i64_in _ (by omega)
      clear hle hlk htk hle' hst

      go_upto_region 14 with fail
      have Ks : Hid (∀ w', Below wr.heap.size wr w' → (Hid (Below wr.heap.size wr w') ∧ w'.cell? ⟨w1.heap.size, 0, none⟩ = some (.int .i64 n) ∧ w'.cell? ⟨w1.heap.size, 1, none⟩ = some (.slice A1 xs.length c1) ∧ w'.cell? ⟨w1.heap.size, 2, none⟩ = some (.slice A2 ys.length c2) ∧ w'.cell? ⟨w1.heap.size, 3, none⟩ = some (.slice A3 ss.length c3))) := fun w' h => by
        have a := VR.out.below h
        exact ⟨h, a.cells.1, a.cells.2.1, a.cells.2.2.1, a.cells.2.2.2⟩
      have hS0 := Ks.out wr.drew ((Below.refl _ _).drew)
      go_cut [16, 17] (fun x y wx => ∃ (P : Nat) (k' : Int) (A' : Option Addr) (cap' : Nat), x = .pointer (some ⟨P, 0, none⟩) ∧ y = .bool true ∧ Hid (VA wx P A' cap' k' st) ∧ Hid (k' = (n : Int)) ∧ Hid (Below wr.heap.size wr wx))
      case first =>
        refine wp_region_Z (S := fun w' => Hid (Below wr.heap.size wr w') ∧ w'.cell? ⟨w1.heap.size, 0, none⟩ = some (.int .i64 n) ∧ w'.cell? ⟨w1.heap.size, 1, none⟩ = some (.slice A1 xs.length c1) ∧ w'.cell? ⟨w1.heap.size, 2, none⟩ = some (.slice A2 ys.length c2) ∧ w'.cell? ⟨w1.heap.size, 3, none⟩ = some (.slice A3 ss.length c3)) (by kernel_rfl) hS0 (fun hS => ?_)
        clear hS0
        refine wpAnyZ_take (i := 0) (v := ?vsp0) rfl (by kernel_rfl) (by kernel_rfl) (by kernel_rfl) (by kernel_rfl) (fun _ _ _ h => h) (Or.inl ⟨by kernel_rfl, ?ysp0⟩) (by with_reducible assumption) ?rsp0
        case ysp0 => (intro w hSw; (try dsimp only at hSw); go_simp; (try with_reducible rfl))
        simp only [Act.put, List.setIfInBounds_toArray]
        refine wpAnyZ_take (i := 1) (v := ?vsp1) rfl (by kernel_rfl) (by kernel_rfl) (by kernel_rfl) (by kernel_rfl) (fun _ _ _ h => h) (Or.inl ⟨by kernel_rfl, ?ysp1⟩) (by with_reducible assumption) ?rsp1
        case ysp1 => (intro w hSw; (try dsimp only at hSw); go_simp; (try with_reducible rfl))
        simp only [Act.put]
        refine wpAnyZ_take (i := 2) (v := ?vsp2) rfl (by kernel_rfl) (by kernel_rfl) (by kernel_rfl) (by kernel_rfl) (fun _ _ _ h => h) (Or.inl ⟨by kernel_rfl, ?ysp2⟩) (by with_reducible assumption) ?rsp2
        case ysp2 => (intro w hSw; (try dsimp only at hSw); go_simp; (try with_reducible rfl))
        simp only [Act.put]
        refine wpAnyZ_take (i := 3) (v := ?vsp3) rfl (by kernel_rfl) (by kernel_rfl) (by kernel_rfl) (by kernel_rfl) (fun _ _ _ h => h) (Or.inl ⟨by kernel_rfl, ?ysp3⟩) (by with_reducible assumption) ?rsp3
        case ysp3 => (intro w hSw; (try dsimp only at hSw); go_simp; (try with_reducible rfl))
        simp only [Act.put]
        refine wpAnyZ_take (i := 4) (v := .int .i64 ((k : Int) + 1)) rfl (by kernel_rfl) (by kernel_rfl) (by kernel_rfl) (by kernel_rfl) (fun _ _ _ h => h) (Or.inl ⟨by kernel_rfl, ?ysp4⟩) (by with_reducible assumption) ?rsp4
        case ysp4 => (intro w hSw; (try dsimp only at hSw); go_simp; (try with_reducible rfl); exact WRK.out)
        simp only [Act.put]
        refine wpAnyZ_take (i := 5) (v := ?vsp5) rfl (by kernel_rfl) (by kernel_rfl) (by kernel_rfl) (by kernel_rfl) (fun _ _ _ h => h) (Or.inl ⟨by kernel_rfl, ?ysp5⟩) (by with_reducible assumption) ?rsp5
        case ysp5 => (intro w hSw; (try dsimp only at hSw); go_simp; (try with_reducible rfl))
        simp only [Act.put]
        refine wpAnyZ_fork (rs := [6, 10]) (by kernel_rfl) (by decide) ?_
        intro i hi
        simp only [List.mem_cons, List.not_mem_nil, or_false] at hi
        rcases hi with rfl | rfl
        · refine ⟨_, rfl, fun K1 hK1 => ?_⟩
          go_simp
          rw [HLE.out]
          refine (iStep_w n _ _ _ _ _ _ _ _ _ _ _ HOK.out HLK.out (VR.out.below hS.1.out).2).mono ?_
          rw [← HST.out]
          rintro e w9 ⟨k9, A9, cap9, rfl, K9, O9, hl9, Hk⟩
          have BC := Lib.hid (below_on hS.1.out Hk.out)
          refine hK1.out _ _ (Ks.out _ BC.out) (fun hS1 => ?_)
          clear hK1 Hk hS
          (try simp only [Act.put])
          refine wpAnyZ_take (i := 7) (v := ?vsa7) rfl (by kernel_rfl) (by kernel_rfl) (by kernel_rfl) (by kernel_rfl) (fun _ _ _ h => h) (Or.inl ⟨by kernel_rfl, ?ysa7⟩) (by with_reducible assumption) ?rsa7
          case ysa7 => (intro w hSw; (try dsimp only at hSw); go_simp; (try with_reducible rfl))
          simp only [Act.put]
          refine wpAnyZ_take (i := 8) (v := ?vsa8) rfl (by kernel_rfl) (by kernel_rfl) (by kernel_rfl) (by kernel_rfl) (fun _ _ _ h => h) (Or.inl ⟨by kernel_rfl, ?ysa8⟩) (by with_reducible assumption) ?rsa8
          case ysa8 => (intro w hSw; (try dsimp only at hSw); go_simp; (try with_reducible rfl))
          simp only [Act.put]
          refine wpAnyZ_take (i := 9) (v := ?vsa9) rfl (by kernel_rfl) (by kernel_rfl) (by kernel_rfl) (by kernel_rfl) (fun _ _ _ h => h) (Or.inl ⟨by kernel_rfl, ?ysa9⟩) (by with_reducible assumption) ?rsa9
          case ysa9 => (intro w hSw; (try dsimp only at hSw); go_simp; (try with_reducible rfl))
          simp only [Act.put]
          refine wpAnyZ_step (i := 10) (by kernel_rfl) rfl ?_
          intro K2 hK2
          go_simp
          have BD := Lib.hid (below_al BC.out (show wr.heap.size ≤ wr.heap.size from Nat.le_refl _) (.cells #[.int .i64 0, .slice none 0 0] 30))
          have Q := Lib.hid (Blk.new w9 30 #[.int .i64 0, .slice none 0 0])
          refine hK2.out _ _ (Ks.out _ BD.out) (fun hS2 => ?_)
          clear hK2 hS1
          (try simp only [Act.put])
          obtain ⟨d0, d1⟩ := two_cells Q.out
          obtain ⟨f0, f1⟩ := two_frozen Q.out
          refine wpAnyZ_step (i := 11) (by kernel_rfl) rfl ?_
          intro K3 hK3
          go_simp
          have QV := Lib.hid (VA.new rfl O9.out hl9 (m := k9))
          have BE := Lib.hid (below_al BC.out (show wr.heap.size ≤ wr.heap.size from Nat.le_refl _) (MO A9 cap9 k9 st))
          refine hK3.out _ _ (Ks.out _ BE.out) (fun hS3 => ?_)
          clear hK3 hS2 d0 d1 f0 f1
          (try simp only [Act.put])
          refine wpAnyZ_last (i := 12) (by kernel_rfl) rfl (by kernel_rfl) ?_
          intro K4 hK4
          go_simp
          refine hK4.out _ _ ?_
          clear hK4
          go_wp2_with fail
          go_meet
          exact ⟨_, k9, A9, cap9, rfl, rfl, QV, K9, BE⟩
        · refine ⟨_, rfl, fun K1 hK1 => ?_⟩
          go_simp
          have BC := Lib.hid (below_al hS.1.out (show wr.heap.size ≤ wr.heap.size from Nat.le_refl _) (.cells #[.int .i64 0, .slice none 0 0] 30))
          have Q0 : Hid (Blk (wr.drew.alloc (.cells #[.int .i64 0, .slice none 0 0] 30)) wr.heap.size 30 #[.int .i64 0, .slice none 0 0]) := Lib.hid (Blk.new wr.drew _ _)
          refine hK1.out _ _ (Ks.out _ BC.out) (fun hS1 => ?_)
          clear hK1
          (try simp only [Act.put])
          refine wpAnyZ_step (i := 6) (by kernel_rfl) rfl ?_
          intro K2 hK2
          go_simp
          rw [HLE.out]
          refine (iStep_w n _ _ _ _ _ _ _ _ _ _ _ HOK.out HLK.out (VR.out.below hS1.1.out).2).mono ?_
          rw [← HST.out]
          rintro e w9 ⟨k9, A9, cap9, rfl, K9, O9, hl9, Hk⟩
          have BD := Lib.hid (below_on BC.out Hk.out)
          have Q := Lib.hid (blk_b Q0.out Hk.out)
          refine hK2.out _ _ (Ks.out _ BD.out) (fun hS2 => ?_)
          clear hK2 hS1 hS Q0
          (try simp only [Act.put])
          refine wpAnyZ_take (i := 7) (v := ?vsb7) rfl (by kernel_rfl) (by kernel_rfl) (by kernel_rfl) (by kernel_rfl) (fun _ _ _ h => h) (Or.inl ⟨by kernel_rfl, ?ysb7⟩) (by with_reducible assumption) ?rsb7
          case ysb7 => (intro w hSw; (try dsimp only at hSw); go_simp; (try with_reducible rfl))
          simp only [Act.put]
          refine wpAnyZ_take (i := 8) (v := ?vsb8) rfl (by kernel_rfl) (by kernel_rfl) (by kernel_rfl) (by kernel_rfl) (fun _ _ _ h => h) (Or.inl ⟨by kernel_rfl, ?ysb8⟩) (by with_reducible assumption) ?rsb8
          case ysb8 => (intro w hSw; (try dsimp only at hSw); go_simp; (try with_reducible rfl))
          simp only [Act.put]
          refine wpAnyZ_take (i := 9) (v := ?vsb9) rfl (by kernel_rfl) (by kernel_rfl) (by kernel_rfl) (by kernel_rfl) (fun _ _ _ h => h) (Or.inl ⟨by kernel_rfl, ?ysb9⟩) (by with_reducible assumption) ?rsb9
          case ysb9 => (intro w hSw; (try dsimp only at hSw); go_simp; (try with_reducible rfl))
          simp only [Act.put]
          obtain ⟨d0, d1⟩ := two_cells Q.out
          obtain ⟨f0, f1⟩ := two_frozen Q.out
          refine wpAnyZ_step (i := 11) (by kernel_rfl) rfl ?_
          intro K3 hK3
          go_simp
          have QV := Lib.hid (VA.put (m := k9) O9.out hl9 Q.out)
          have BE := Lib.hid ((BD.out.setCell (p := ⟨wr.heap.size, 0, none⟩) (Nat.le_refl _) (.int .i64 k9)).setCell (p := ⟨wr.heap.size, 1, none⟩) (Nat.le_refl _) (.slice A9 st.length cap9))
          refine hK3.out _ _ (Ks.out _ BE.out) (fun hS3 => ?_)
          clear hK3 hS2 d0 d1 f0 f1
          (try simp only [Act.put])
          refine wpAnyZ_last (i := 12) (by kernel_rfl) rfl (by kernel_rfl) ?_
          intro K4 hK4
          go_simp
          refine hK4.out _ _ ?_
          clear hK4
          go_wp2_with fail
          go_meet
          exact ⟨_, k9, A9, cap9, rfl, rfl, QV, K9, BE⟩
      obtain ⟨PS, ks, As, caps, rfl, rfl, XS, KS, HBs⟩ := hcut
      obtain ⟨wd, rfl⟩ : ∃ wd, wd = wc := ⟨_, rfl⟩
      have HP2 := Lib.hid (HP.out.below HBs.out)
      have HB2 := Lib.hid (below_on HBr.out HBs.out)
      clear HP HBr HBs Ks hS0 VR
      obtain ⟨gt, hgt⟩ : ∃ gt, grL st = gt := ⟨_, rfl⟩
      have HGT := Lib.hid hgt
      rw [hgt] at NX
      have GT : Hid (GV n gt) := by show _; rw [← hgt]; exact grL_ok MS.out
      clear hgt
      obtain ⟨x0, x1⟩ := XS.out.cells
      have x2 := XS.out.lt
      go_wp2_with fail
      refine (iGOf_w n ks st gt _ _ _ KS.out MS.out HGT.out XS.out.2.1 XS.out.2.2).mono ?_
      rintro e w10 ⟨k10, A10, cap10, rfl, K10, O10, hl10, Hk⟩
      have HP3 := Lib.hid (HP2.out.below Hk.out)
      have HB3 := Lib.hid (below_on HB2.out Hk.out)
      clear HP2 HB2 XS Hk x0 x1 x2
      have HP4 := Lib.hid (HP3.out.al (MO A10 cap10 k10 gt))
      have T4 := Lib.hid (VA.new rfl O10.out hl10 (m := k10))
      have HB4 := Lib.hid (below_al HB3.out (by have := HB3.out.size; omega) (MO A10 cap10 k10 gt))
      obtain ⟨y0, y1⟩ := HP3.out.cells
      have y2 := HP3.out.lt
      clear HP3 O10 HB3
      go_wp2_with fail
      refine (iMulG_w n kp k10 ps gt _ _ _ _ _ _ KP.out K10.out GP.out GT.out NX.out HP4.out.2.1 T4.out.2.1 HP4.out.2.2 T4.out.2.2).mono ?_
      rintro e w11 ⟨k11, A11, cap11, rfl, K11, O11, hl11, Hk⟩
      have HP5 := Lib.hid (blk_b HP4.out.1 Hk.out)
      have HB5 := Lib.hid (below_on HB4.out Hk.out)
      clear HP4 T4 HB4 Hk y0 y1 y2
      obtain ⟨d0, d1⟩ := two_cells HP5.out
      obtain ⟨f0, f1⟩ := two_frozen HP5.out
      go_wp2_with fail
      have QV := Lib.hid (VA.put (m := k11) O11.out hl11 HP5.out)
      have BE := Lib.hid ((HB5.out.setCell (p := ⟨w7.heap.size, 0, none⟩) (Nat.le_refl _) (.int .i64 k11)).setCell (p := ⟨w7.heap.size, 1, none⟩) (Nat.le_refl _) (.slice A11 (grL (prodL n ss (l.data.toList.take (k + 1)))).length cap11))
      go_roundw
      case rel => exact ⟨k + 1, k11, A11, cap11, _, by omega, by go_num, QV, K11, rfl, BE⟩
      case measure => simp [intOf]; omega
    · obtain rfl : k = l.size := by omega
      have VZ := Lib.hid (V11.out.below HBr.out)
      have GZ := Lib.hid (G11.out.below HBr.out)
      have BZ := Lib.hid (below_on B11.out HBr.out)
      have EPS : Hid (ps = gs) := by
        show _ = _
        rw [EP.out, List.take_of_length_le (by simp), ← HG.out, ER.out]
      have hpl : ps.length = gs.length := by rw [EPS.out]
      clear V11 G11 B11 HBr EP
      obtain ⟨x0, x1, x2, x3⟩ := VZ.out.cells
      have xl := VZ.out.lt
      go_wp2_with fail
      refine (iCost_r z hll.out VZ.out.2 HCO.out).mono ?_
      rintro e w12 ⟨rfl, Hk⟩
      have V12 := Lib.hid (VZ.out.below Hk.out)
      have G12 := Lib.hid (GZ.out.below Hk.out)
      have P12 := Lib.hid (HP.out.below Hk.out)
      have B12 := Lib.hid (below_on BZ.out Hk.out)
      clear VZ GZ HP BZ Hk x0 x1 x2 x3 xl
      obtain ⟨x0, x1, x2, x3⟩ := V12.out.cells
      have xl := V12.out.lt
      obtain ⟨y0, y1⟩ := G12.out.cells
      have y2 := G12.out.lt
      go_wp2_with fail
      refine (iBetween_any _ _ _ _ _ _ _ _ _ _ _ _ _ _ gz _ V12.out.2.i1 V12.out.2.i2 V12.out.2.s3 (G12.out.2.1.ints G12.out.2.2) (by rw [K5.out]; exact HBE.out)).mono ?_
      rintro e w13 ⟨rfl, Hk'⟩
      have Hk := Lib.hid Hk'
      clear Hk'
      have G13 := Lib.hid (G12.out.below Hk.out)
      have P13 := Lib.hid (P12.out.below Hk.out)
      have B13 := Lib.hid (below_on B12.out Hk.out)
      clear V12 G12 P12 B12 Hk x0 x1 x2 x3 xl y0 y1 y2
      have Pf : Hid (VA w13 w7.heap.size Ap capp kp gs) := by
        have h := P13.out
        rw [EPS.out] at h
        exact h
      obtain ⟨y0, y1⟩ := G13.out.cells
      have y2 := G13.out.lt
      obtain ⟨u0, u1⟩ := Pf.out.cells
      have u2 := Pf.out.lt
      have g0 := G0.out
      have g3 := G3.out
      have c0 := C0.out
      have c3 := C3.out
      go_wp2_with fail
      refine (da_r _ _ _ _ _ _ _ _ (KP.out.trans K5.out.symm) Pf.out.2.1 G13.out.2.1 G13.out.2.2).mono ?_
      rintro e w14 ⟨rfl, Hk⟩
      have G14 := Lib.hid (G13.out.below Hk.out)
      have B14 := Lib.hid (below_on B13.out Hk.out)
      clear G13 Pf P13 B13 Hk y0 y1 y2 u0 u1 u2
      obtain ⟨y0, y1⟩ := G14.out.cells
      have y2 := G14.out.lt
      go_wp2_with fail
      refine (iGradesValid_is _ _ _ _ true _ (G14.out.2.1.ints G14.out.2.2) (by rw [K5.out]; exact GOK.out)).mono ?_
      rintro e w15 ⟨rfl, Hk⟩
      have B15 := Lib.hid (below_on B14.out Hk)
      clear G14 B14 Hk y0 y1 y2
      go_wp2_with fail
      go_ret
      exact ⟨rfl, B15.out⟩
end Go.Proofs.YtjhaegkefagngaaGreatDoor
