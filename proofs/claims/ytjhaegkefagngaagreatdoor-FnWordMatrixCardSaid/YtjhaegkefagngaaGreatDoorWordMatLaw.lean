/- The walk of the law of products of words: it returns true for all inputs, and nothing that was there changes. No condition. -/
import Derived.Test.YtjhaegkefagngaaGreatDoorWordP
import Derived.Test.YtjhaegkefagngaaGreatDoorBadA
import Derived.Test.YtjhaegkefagngaaGreatDoorDaAny
import Derived.Deep.DeepCutAuto
import Derived.Deep.CutRange
import Derived.OpenShut
namespace Go.Proofs.YtjhaegkefagngaaGreatDoor
open Go.RowKit
set_option maxHeartbeats 8000000
set_option maxRecDepth 100000
set_option linter.unusedVariables false

theorem FnWordMatrix_walk (A : Option Addr) (cap : Nat) (zs : List Int) (A' : Option Addr) (cap' : Nat) (zs' : List Int) (w : World) (hz : IRow .u8 w w.heap.size A zs) (hc : zs.length ≤ cap) (hwf : ∀ z ∈ zs, (Lit.int .u8 z).wf = true) (hz' : IRow .u8 w w.heap.size A' zs') (hc' : zs'.length ≤ cap') (hwf' : ∀ z ∈ zs', (Lit.int .u8 z).wf = true) :
    Calls Tryz.prog 3 #[.slice A zs.length cap, .slice A' zs'.length cap'] w fun e w' => e = .returned (.bool true) ∧ Below w.heap.size w w' := by
  have hl1 := hz.len
  have hl1' := hz'.len
  have HB := Lib.hid (show ∀ z ∈ zs, 0 ≤ z ∧ z ≤ 255 from fun z hz => bounds_u8 (hwf z hz))
  clear hwf hwf' hz'
  by_cases hs1 : (1048576 : Int) < (zs.length : Int)
  · go_enter Tryz.func3, Tryz.ntmps3
    go_wp2_with fail
    go_ret
    exact ⟨rfl, Below.refl _ _⟩
  by_cases hs2 : (1048576 : Int) < (zs'.length : Int)
  · go_enter Tryz.func3, Tryz.ntmps3
    go_wp2_with fail
    go_ret
    exact ⟨rfl, Below.refl _ _⟩
  go_enter Tryz.func3, Tryz.ntmps3
  go_wp2_with fail
  refine (drawWM_any _ _ _ _ hz hc HB.out).mono ?_
  rintro e w1 ⟨m, x1, x2, x3, xs, ys, ss, l, rfl, ho, hf, hl10, hb1⟩
  obtain ⟨A1, c1, A2, c2, A3, c3, rfl, rfl, rfl⟩ := ho.out.forms
  have R1 := Lib.hid (AR.of ho.out)
  have hll : Hid (l.size ≤ maxLen) := by show _ ≤ _; unfold maxLen; omega
  obtain ⟨r, hr⟩ : ∃ r, wordR m xs ys ss l = r := ⟨_, rfl⟩
  obtain ⟨mr, hmr⟩ : ∃ mr, (r.getD (0, [])).1 = mr := ⟨_, rfl⟩
  obtain ⟨rs, hrs⟩ : ∃ rs, (r.getD (0, [])).2 = rs := ⟨_, rfl⟩
  obtain ⟨ok, hok⟩ : ∃ ok, r.isSome = ok := ⟨_, rfl⟩
  have HR := Lib.hid hr
  have H1 := Lib.hid hmr
  have H2 := Lib.hid hrs
  have H3 := Lib.hid hok
  clear hr hmr hrs hok
  have V1 := Lib.hid (AV.new rfl R1.out (m := m) (c1 := c1) (c2 := c2) (c3 := c3))
  have B1 := Lib.hid (below_al hb1.out (Nat.le_refl _) (AO m A1 A2 A3 c1 c2 c3 xs ys ss))
  clear R1 ho hb1 hf hz hc HB
  go_wp2_with fail
  refine (iWord_r mr rs ok hll.out V1.out.2 (by rw [HR.out]; exact H1.out) (by rw [HR.out]; exact H2.out) (by rw [HR.out]; exact H3.out)).mono ?_
  rintro e w2 ⟨k2, A4, cap4, rfl, K2, O2, hl4, Hk⟩
  have V2 := Lib.hid (V1.out.below Hk.out)
  have B2 := Lib.hid (below_on B1.out Hk.out)
  clear V1 B1 Hk
  obtain ⟨x0, x1, x2, x3⟩ := V2.out.cells
  have xl := V2.out.lt
  have V3 := Lib.hid (V2.out.al (MO A4 cap4 k2 rs))
  have M3 := Lib.hid (VA.new rfl O2.out hl4 (m := k2))
  have B3 := Lib.hid (below_al B2.out (Nat.le_refl _) (MO A4 cap4 k2 rs))
  clear V2 O2 B2
  go_wp2_with fail
  refine (sWord_r mr rs ok hll.out V3.out.2 (by rw [HR.out]; exact H1.out) (by rw [HR.out]; exact H2.out) (by rw [HR.out]; exact H3.out)).mono ?_
  rintro e w3 ⟨k3, A5, cap5, rfl, K3, O3, hl5, Hk⟩
  have V4 := Lib.hid (V3.out.below Hk.out)
  have M4 := Lib.hid (M3.out.below Hk.out)
  have B4 := Lib.hid (below_on B3.out Hk.out)
  clear V3 M3 B3 Hk x0 x1 x2 x3 xl
  obtain ⟨y0, y1⟩ := M4.out.cells
  have y2 := M4.out.lt
  have V5 := Lib.hid (V4.out.al (MO A5 cap5 k3 rs))
  have M5 := Lib.hid (M4.out.al (MO A5 cap5 k3 rs))
  have W5 := Lib.hid (VA.new rfl O3.out hl5 (m := k3))
  have B5 := Lib.hid (below_al B4.out (Nat.le_refl _) (MO A5 cap5 k3 rs))
  clear V4 M4 O3 B4
  go_wp2_with fail
  refine (da_r _ _ _ _ _ _ _ _ (K2.out.trans K3.out.symm) M5.out.2.1 W5.out.2.1 hl4).mono ?_
  rintro e w4 ⟨rfl, Hk⟩
  have V6 := Lib.hid (V5.out.below Hk.out)
  have M6 := Lib.hid (M5.out.below Hk.out)
  have W6 := Lib.hid (W5.out.below Hk.out)
  have B6 := Lib.hid (below_on B5.out Hk.out)
  clear V5 M5 W5 B5 Hk y0 y1 y2
  cases ok
  · obtain ⟨y0, y1⟩ := M6.out.cells
    have y2 := M6.out.lt
    obtain ⟨z0, z1⟩ := W6.out.cells
    have z2 := W6.out.lt
    go_wp2_with fail
    refine (da_r _ _ _ _ _ _ _ _ (K2.out.trans K3.out.symm) M6.out.2.1 W6.out.2.1 hl4).mono ?_
    rintro e w5 ⟨rfl, Hk⟩
    have B7 := Lib.hid (below_on B6.out Hk.out)
    go_wp2_with fail
    go_ret
    exact ⟨rfl, B7.out⟩
  obtain ⟨n, rfl, hok, hwk⟩ := word_good (by rw [HR.out]; exact H3.out)
  obtain ⟨k, hk⟩ : ∃ k, k = zs'.length % (l.size + 1) := ⟨_, rfl⟩
  have hkl : k ≤ l.size := by rw [hk]; have h : zs'.length % (l.size + 1) < l.size + 1 := Nat.mod_lt _ (by omega); omega
  have hkm : Int.tmod (zs'.length : Int) ((l.size : Int) + 1) = (k : Int) := by rw [hk]; rfl
  have WC := Lib.hid (word_cut k hkl hok hwk)
  have EM : Hid (k2 = (n : Int)) := by
    show _ = _
    rw [K2.out, ← H1.out, ← HR.out, wordR_some hok hwk]; rfl
  have ER : Hid (rs = prodL n ss l.data.toList) := by
    show _ = _
    rw [← H2.out, ← HR.out, wordR_some hok hwk]; rfl
  obtain ⟨u, hu⟩ : ∃ u, u = prodL n ss (l.data.toList.take k) := ⟨_, rfl⟩
  obtain ⟨v, hv⟩ : ∃ v, v = prodL n ss (l.data.toList.drop k) := ⟨_, rfl⟩
  obtain ⟨cs, hcs⟩ : ∃ cs, cs = begs n xs ys ss l.data.toList (l.size + 1) := ⟨_, rfl⟩
  obtain ⟨ca, hca⟩ : ∃ ca, ca = costF n xs ys ss (l.data.toList.take k) := ⟨_, rfl⟩
  obtain ⟨cb, hcb⟩ : ∃ cb, cb = costF n xs ys ss l.data.toList := ⟨_, rfl⟩
  rw [← hu, ← hv, ← hcs, ← hca, ← hcb, ← ER.out] at WC
  clear hu hv hcs hca hcb ER hok hwk H1 H2 H3 HR K3 W6 hk
  have hk0 : (0 : Int) ≤ (k : Int) := by omega
  have hk1 : (k : Int) ≤ (l.size : Int) := by omega
  have hlf : (l.extract 0 k).size ≤ maxLen := by rw [ByteArray.size_extract]; unfold maxLen; omega
  have hlr : (l.extract k l.size).size ≤ maxLen := by rw [ByteArray.size_extract]; unfold maxLen; omega
  have HLF := Lib.hid hlf
  have HLR := Lib.hid hlr
  clear hlf hlr

  obtain ⟨x0, x1, x2, x3⟩ := V6.out.cells
  have xl := V6.out.lt
  go_upto_region 9 with fail
  have Ks : Hid (∀ w', Below w4.heap.size w4 w' → (Hid (Below w4.heap.size w4 w') ∧ w'.cell? ⟨w1.heap.size, 0, none⟩ = some (.int .i64 n) ∧ w'.cell? ⟨w1.heap.size, 1, none⟩ = some (.slice A1 xs.length c1) ∧ w'.cell? ⟨w1.heap.size, 2, none⟩ = some (.slice A2 ys.length c2) ∧ w'.cell? ⟨w1.heap.size, 3, none⟩ = some (.slice A3 ss.length c3))) := fun w' h => by
    have a := V6.out.below h
    exact ⟨h, a.cells.1, a.cells.2.1, a.cells.2.2.1, a.cells.2.2.2⟩
  have hS0 := Ks.out w4.drew ((Below.refl _ _).drew)
  go_cut [12, 13] (fun x y wx => ∃ (P : Nat) (k' : Int) (A' : Option Addr) (cap' : Nat), x = .pointer (some ⟨P, 0, none⟩) ∧ y = .bool true ∧ Hid (VA wx P A' cap' k' u) ∧ Hid (k' = (n : Int)) ∧ Hid (Below w4.heap.size w4 wx))
  case first =>
    refine wp_region_Z (S := fun w' => Hid (Below w4.heap.size w4 w') ∧ w'.cell? ⟨w1.heap.size, 0, none⟩ = some (.int .i64 n) ∧ w'.cell? ⟨w1.heap.size, 1, none⟩ = some (.slice A1 xs.length c1) ∧ w'.cell? ⟨w1.heap.size, 2, none⟩ = some (.slice A2 ys.length c2) ∧ w'.cell? ⟨w1.heap.size, 3, none⟩ = some (.slice A3 ss.length c3)) (by kernel_rfl) hS0 (fun hS => ?_)
    clear hS0
    refine wpAnyZ_take (i := 0) (v := ?vsp0) rfl (by kernel_rfl) (by kernel_rfl) (by kernel_rfl) (by kernel_rfl) (fun _ _ _ h => h) (Or.inl ⟨by kernel_rfl, ?ysp0⟩) (by with_reducible assumption) ?rsp0
    case ysp0 => (intro w hSw; (try dsimp only at hSw); go_simp; (try with_reducible rfl))
    simp only [Act.put, List.setIfInBounds_toArray]
    refine wpAnyZ_take (i := 1) (v := ?vsp1) rfl (by kernel_rfl) (by kernel_rfl) (by kernel_rfl) (by kernel_rfl) (fun _ _ _ h => h) (Or.inl ⟨by kernel_rfl, ?ysp1⟩) (by with_reducible assumption) ?rsp1
    case ysp1 => (intro w hSw; (try dsimp only at hSw); go_simp; (try with_reducible rfl))
    simp only [Act.put]
    refine wpAnyZ_take (i := 2) (v := ?vsp2) rfl (by kernel_rfl) (by kernel_rfl) (by kernel_rfl) (by kernel_rfl) (fun _ _ _ h => h) (Or.inl ⟨by kernel_rfl, ?ysp2⟩) (by with_reducible assumption) ?rsp2
    case ysp2 => (intro w hSw; (try dsimp only at hSw); go_simp; (try with_reducible rfl))
    simp only [Act.put]
    refine wpAnyZ_take (i := 3) (v := ?vsp3) rfl (by kernel_rfl) (by kernel_rfl) (by kernel_rfl) (by kernel_rfl) (fun _ _ _ h => h) (Or.inl ⟨by kernel_rfl, ?ysp3⟩) (by with_reducible assumption) ?rsp3
    case ysp3 => (intro w hSw; (try dsimp only at hSw); go_simp; (try with_reducible rfl))
    simp only [Act.put]
    refine wpAnyZ_fork (rs := [4, 8]) (by kernel_rfl) (by decide) ?_
    intro i hi
    simp only [List.mem_cons, List.not_mem_nil, or_false] at hi
    rcases hi with rfl | rfl
    · refine ⟨_, rfl, fun K1 hK1 => ?_⟩
      go_simp
      refine (iWord_r (n : Int) u true HLF.out (V6.out.below hS.1.out).2 (by rw [WC.out.first]; rfl) (by rw [WC.out.first]; rfl) (by rw [WC.out.first]; rfl)).mono ?_
      rintro e w9 ⟨k9, A9, cap9, rfl, K9, O9, hl9, Hk⟩
      have BC := Lib.hid (below_on hS.1.out Hk.out)
      refine hK1.out _ _ (Ks.out _ BC.out) (fun hS1 => ?_)
      clear hK1 Hk hS
      (try simp only [Act.put])
      refine wpAnyZ_take (i := 5) (v := ?vsa5) rfl (by kernel_rfl) (by kernel_rfl) (by kernel_rfl) (by kernel_rfl) (fun _ _ _ h => h) (Or.inl ⟨by kernel_rfl, ?ysa5⟩) (by with_reducible assumption) ?rsa5
      case ysa5 => (intro w hSw; (try dsimp only at hSw); go_simp; (try with_reducible rfl))
      simp only [Act.put]
      refine wpAnyZ_take (i := 6) (v := ?vsa6) rfl (by kernel_rfl) (by kernel_rfl) (by kernel_rfl) (by kernel_rfl) (fun _ _ _ h => h) (Or.inl ⟨by kernel_rfl, ?ysa6⟩) (by with_reducible assumption) ?rsa6
      case ysa6 => (intro w hSw; (try dsimp only at hSw); go_simp; (try with_reducible rfl))
      simp only [Act.put]
      refine wpAnyZ_take (i := 7) (v := ?vsa7) rfl (by kernel_rfl) (by kernel_rfl) (by kernel_rfl) (by kernel_rfl) (fun _ _ _ h => h) (Or.inl ⟨by kernel_rfl, ?ysa7⟩) (by with_reducible assumption) ?rsa7
      case ysa7 => (intro w hSw; (try dsimp only at hSw); go_simp; (try with_reducible rfl))
      simp only [Act.put]
      refine wpAnyZ_step (i := 8) (by kernel_rfl) rfl ?_
      intro K2 hK2
      go_simp
      have BD := Lib.hid (below_al BC.out (show w4.heap.size ≤ w4.heap.size from Nat.le_refl _) (.cells #[.int .i64 0, .slice none 0 0] 30))
      have Q := Lib.hid (Blk.new w9 30 #[.int .i64 0, .slice none 0 0])
      have hw9 : w4.heap.size ≤ w9.heap.size := BC.out.size
      refine hK2.out _ _ (Ks.out _ BD.out) (fun hS2 => ?_)
      clear hK2 hS1
      (try simp only [Act.put])
      obtain ⟨d0, d1⟩ := two_cells Q.out
      obtain ⟨f0, f1⟩ := two_frozen Q.out
      refine wpAnyZ_step (i := 9) (by kernel_rfl) rfl ?_
      intro K3 hK3
      go_simp
      have QV := Lib.hid (VA.new rfl O9.out hl9 (m := k9))
      have BE := Lib.hid (below_al BC.out (show w4.heap.size ≤ w4.heap.size from Nat.le_refl _) (MO A9 cap9 k9 u))
      refine hK3.out _ _ (Ks.out _ BE.out) (fun hS3 => ?_)
      clear hK3 hS2 d0 d1 f0 f1
      (try simp only [Act.put])
      refine wpAnyZ_last (i := 10) (by kernel_rfl) rfl (by kernel_rfl) ?_
      intro K4 hK4
      go_simp
      refine hK4.out _ _ ?_
      clear hK4
      go_wp2_with fail
      go_meet
      exact ⟨_, k9, A9, cap9, rfl, rfl, QV, K9, BE⟩
    · refine ⟨_, rfl, fun K1 hK1 => ?_⟩
      go_simp
      have BC := Lib.hid (below_al hS.1.out (show w4.heap.size ≤ w4.heap.size from Nat.le_refl _) (.cells #[.int .i64 0, .slice none 0 0] 30))
      have Q0 : Hid (Blk (w4.drew.alloc (.cells #[.int .i64 0, .slice none 0 0] 30)) w4.heap.size 30 #[.int .i64 0, .slice none 0 0]) := Lib.hid (Blk.new w4.drew _ _)
      refine hK1.out _ _ (Ks.out _ BC.out) (fun hS1 => ?_)
      clear hK1
      (try simp only [Act.put])
      refine wpAnyZ_step (i := 4) (by kernel_rfl) rfl ?_
      intro K2 hK2
      go_simp
      refine (iWord_r (n : Int) u true HLF.out (V6.out.below hS1.1.out).2 (by rw [WC.out.first]; rfl) (by rw [WC.out.first]; rfl) (by rw [WC.out.first]; rfl)).mono ?_
      rintro e w9 ⟨k9, A9, cap9, rfl, K9, O9, hl9, Hk⟩
      have BD := Lib.hid (below_on BC.out Hk.out)
      have Q := Lib.hid (blk_b Q0.out Hk.out)
      refine hK2.out _ _ (Ks.out _ BD.out) (fun hS2 => ?_)
      clear hK2 hS1 hS Q0
      (try simp only [Act.put])
      refine wpAnyZ_take (i := 5) (v := ?vsb5) rfl (by kernel_rfl) (by kernel_rfl) (by kernel_rfl) (by kernel_rfl) (fun _ _ _ h => h) (Or.inl ⟨by kernel_rfl, ?ysb5⟩) (by with_reducible assumption) ?rsb5
      case ysb5 => (intro w hSw; (try dsimp only at hSw); go_simp; (try with_reducible rfl))
      simp only [Act.put]
      refine wpAnyZ_take (i := 6) (v := ?vsb6) rfl (by kernel_rfl) (by kernel_rfl) (by kernel_rfl) (by kernel_rfl) (fun _ _ _ h => h) (Or.inl ⟨by kernel_rfl, ?ysb6⟩) (by with_reducible assumption) ?rsb6
      case ysb6 => (intro w hSw; (try dsimp only at hSw); go_simp; (try with_reducible rfl))
      simp only [Act.put]
      refine wpAnyZ_take (i := 7) (v := ?vsb7) rfl (by kernel_rfl) (by kernel_rfl) (by kernel_rfl) (by kernel_rfl) (fun _ _ _ h => h) (Or.inl ⟨by kernel_rfl, ?ysb7⟩) (by with_reducible assumption) ?rsb7
      case ysb7 => (intro w hSw; (try dsimp only at hSw); go_simp; (try with_reducible rfl))
      simp only [Act.put]
      obtain ⟨d0, d1⟩ := two_cells Q.out
      obtain ⟨f0, f1⟩ := two_frozen Q.out
      refine wpAnyZ_step (i := 9) (by kernel_rfl) rfl ?_
      intro K3 hK3
      go_simp
      have QV := Lib.hid (VA.put (m := k9) O9.out hl9 Q.out)
      have BE := Lib.hid ((BD.out.setCell (p := ⟨w4.heap.size, 0, none⟩) (Nat.le_refl _) (.int .i64 k9)).setCell (p := ⟨w4.heap.size, 1, none⟩) (Nat.le_refl _) (.slice A9 u.length cap9))
      refine hK3.out _ _ (Ks.out _ BE.out) (fun hS3 => ?_)
      clear hK3 hS2 d0 d1 f0 f1
      (try simp only [Act.put])
      refine wpAnyZ_last (i := 10) (by kernel_rfl) rfl (by kernel_rfl) ?_
      intro K4 hK4
      go_simp
      refine hK4.out _ _ ?_
      clear hK4
      go_wp2_with fail
      go_meet
      exact ⟨_, k9, A9, cap9, rfl, rfl, QV, K9, BE⟩
  obtain ⟨P, k5, B5a, cap6, rfl, rfl, X7, KX, HB7⟩ := hcut
  obtain ⟨wd, rfl⟩ : ∃ wd, wd = wc := ⟨_, rfl⟩
  have V7 := Lib.hid (V6.out.below HB7.out)
  have M7 := Lib.hid (M6.out.below HB7.out)
  have B7 := Lib.hid (below_on B6.out HB7.out)
  clear V6 M6 B6 HB7 Ks hS0 x0 x1 x2 x3 xl
  go_upto_region 10 with fail
  have Kt : Hid (∀ w', Below wd.heap.size wd w' → (Hid (Below wd.heap.size wd w') ∧ w'.cell? ⟨w1.heap.size, 0, none⟩ = some (.int .i64 n) ∧ w'.cell? ⟨w1.heap.size, 1, none⟩ = some (.slice A1 xs.length c1) ∧ w'.cell? ⟨w1.heap.size, 2, none⟩ = some (.slice A2 ys.length c2) ∧ w'.cell? ⟨w1.heap.size, 3, none⟩ = some (.slice A3 ss.length c3))) := fun w' h => by
    have a := V7.out.below h
    exact ⟨h, a.cells.1, a.cells.2.1, a.cells.2.2.1, a.cells.2.2.2⟩
  have hS0 := Kt.out wd.drew ((Below.refl _ _).drew)
  go_cut [14, 15] (fun x y wx => ∃ (P : Nat) (k' : Int) (A' : Option Addr) (cap' : Nat), x = .pointer (some ⟨P, 0, none⟩) ∧ y = .bool true ∧ Hid (VA wx P A' cap' k' v) ∧ Hid (k' = (n : Int)) ∧ Hid (Below wd.heap.size wd wx))
  case first =>
    refine wp_region_Z (S := fun w' => Hid (Below wd.heap.size wd w') ∧ w'.cell? ⟨w1.heap.size, 0, none⟩ = some (.int .i64 n) ∧ w'.cell? ⟨w1.heap.size, 1, none⟩ = some (.slice A1 xs.length c1) ∧ w'.cell? ⟨w1.heap.size, 2, none⟩ = some (.slice A2 ys.length c2) ∧ w'.cell? ⟨w1.heap.size, 3, none⟩ = some (.slice A3 ss.length c3)) (by kernel_rfl) hS0 (fun hS => ?_)
    clear hS0
    refine wpAnyZ_take (i := 0) (v := ?vtp0) rfl (by kernel_rfl) (by kernel_rfl) (by kernel_rfl) (by kernel_rfl) (fun _ _ _ h => h) (Or.inl ⟨by kernel_rfl, ?ytp0⟩) (by with_reducible assumption) ?rtp0
    case ytp0 => (intro w hSw; (try dsimp only at hSw); go_simp; (try with_reducible rfl))
    simp only [Act.put, List.setIfInBounds_toArray]
    refine wpAnyZ_take (i := 1) (v := ?vtp1) rfl (by kernel_rfl) (by kernel_rfl) (by kernel_rfl) (by kernel_rfl) (fun _ _ _ h => h) (Or.inl ⟨by kernel_rfl, ?ytp1⟩) (by with_reducible assumption) ?rtp1
    case ytp1 => (intro w hSw; (try dsimp only at hSw); go_simp; (try with_reducible rfl))
    simp only [Act.put]
    refine wpAnyZ_take (i := 2) (v := ?vtp2) rfl (by kernel_rfl) (by kernel_rfl) (by kernel_rfl) (by kernel_rfl) (fun _ _ _ h => h) (Or.inl ⟨by kernel_rfl, ?ytp2⟩) (by with_reducible assumption) ?rtp2
    case ytp2 => (intro w hSw; (try dsimp only at hSw); go_simp; (try with_reducible rfl))
    simp only [Act.put]
    refine wpAnyZ_take (i := 3) (v := ?vtp3) rfl (by kernel_rfl) (by kernel_rfl) (by kernel_rfl) (by kernel_rfl) (fun _ _ _ h => h) (Or.inl ⟨by kernel_rfl, ?ytp3⟩) (by with_reducible assumption) ?rtp3
    case ytp3 => (intro w hSw; (try dsimp only at hSw); go_simp; (try with_reducible rfl))
    simp only [Act.put]
    refine wpAnyZ_fork (rs := [4, 8]) (by kernel_rfl) (by decide) ?_
    intro i hi
    simp only [List.mem_cons, List.not_mem_nil, or_false] at hi
    rcases hi with rfl | rfl
    · refine ⟨_, rfl, fun K1 hK1 => ?_⟩
      go_simp
      refine (iWord_r (n : Int) v true HLR.out (V7.out.below hS.1.out).2 (by rw [WC.out.rest]; rfl) (by rw [WC.out.rest]; rfl) (by rw [WC.out.rest]; rfl)).mono ?_
      rintro e w9 ⟨k9, A9, cap9, rfl, K9, O9, hl9, Hk⟩
      have BC := Lib.hid (below_on hS.1.out Hk.out)
      refine hK1.out _ _ (Kt.out _ BC.out) (fun hS1 => ?_)
      clear hK1 Hk hS
      (try simp only [Act.put])
      refine wpAnyZ_take (i := 5) (v := ?vta5) rfl (by kernel_rfl) (by kernel_rfl) (by kernel_rfl) (by kernel_rfl) (fun _ _ _ h => h) (Or.inl ⟨by kernel_rfl, ?yta5⟩) (by with_reducible assumption) ?rta5
      case yta5 => (intro w hSw; (try dsimp only at hSw); go_simp; (try with_reducible rfl))
      simp only [Act.put]
      refine wpAnyZ_take (i := 6) (v := ?vta6) rfl (by kernel_rfl) (by kernel_rfl) (by kernel_rfl) (by kernel_rfl) (fun _ _ _ h => h) (Or.inl ⟨by kernel_rfl, ?yta6⟩) (by with_reducible assumption) ?rta6
      case yta6 => (intro w hSw; (try dsimp only at hSw); go_simp; (try with_reducible rfl))
      simp only [Act.put]
      refine wpAnyZ_take (i := 7) (v := ?vta7) rfl (by kernel_rfl) (by kernel_rfl) (by kernel_rfl) (by kernel_rfl) (fun _ _ _ h => h) (Or.inl ⟨by kernel_rfl, ?yta7⟩) (by with_reducible assumption) ?rta7
      case yta7 => (intro w hSw; (try dsimp only at hSw); go_simp; (try with_reducible rfl))
      simp only [Act.put]
      refine wpAnyZ_step (i := 8) (by kernel_rfl) rfl ?_
      intro K2 hK2
      go_simp
      have BD := Lib.hid (below_al BC.out (show wd.heap.size ≤ wd.heap.size from Nat.le_refl _) (.cells #[.int .i64 0, .slice none 0 0] 30))
      have Q := Lib.hid (Blk.new w9 30 #[.int .i64 0, .slice none 0 0])
      have hw9 : wd.heap.size ≤ w9.heap.size := BC.out.size
      refine hK2.out _ _ (Kt.out _ BD.out) (fun hS2 => ?_)
      clear hK2 hS1
      (try simp only [Act.put])
      obtain ⟨d0, d1⟩ := two_cells Q.out
      obtain ⟨f0, f1⟩ := two_frozen Q.out
      refine wpAnyZ_step (i := 9) (by kernel_rfl) rfl ?_
      intro K3 hK3
      go_simp
      have QV := Lib.hid (VA.new rfl O9.out hl9 (m := k9))
      have BE := Lib.hid (below_al BC.out (show wd.heap.size ≤ wd.heap.size from Nat.le_refl _) (MO A9 cap9 k9 v))
      refine hK3.out _ _ (Kt.out _ BE.out) (fun hS3 => ?_)
      clear hK3 hS2 d0 d1 f0 f1
      (try simp only [Act.put])
      refine wpAnyZ_last (i := 10) (by kernel_rfl) rfl (by kernel_rfl) ?_
      intro K4 hK4
      go_simp
      refine hK4.out _ _ ?_
      clear hK4
      go_wp2_with fail
      go_meet
      exact ⟨_, k9, A9, cap9, rfl, rfl, QV, K9, BE⟩
    · refine ⟨_, rfl, fun K1 hK1 => ?_⟩
      go_simp
      have BC := Lib.hid (below_al hS.1.out (show wd.heap.size ≤ wd.heap.size from Nat.le_refl _) (.cells #[.int .i64 0, .slice none 0 0] 30))
      have Q0 : Hid (Blk (wd.drew.alloc (.cells #[.int .i64 0, .slice none 0 0] 30)) wd.heap.size 30 #[.int .i64 0, .slice none 0 0]) := Lib.hid (Blk.new wd.drew _ _)
      refine hK1.out _ _ (Kt.out _ BC.out) (fun hS1 => ?_)
      clear hK1
      (try simp only [Act.put])
      refine wpAnyZ_step (i := 4) (by kernel_rfl) rfl ?_
      intro K2 hK2
      go_simp
      refine (iWord_r (n : Int) v true HLR.out (V7.out.below hS1.1.out).2 (by rw [WC.out.rest]; rfl) (by rw [WC.out.rest]; rfl) (by rw [WC.out.rest]; rfl)).mono ?_
      rintro e w9 ⟨k9, A9, cap9, rfl, K9, O9, hl9, Hk⟩
      have BD := Lib.hid (below_on BC.out Hk.out)
      have Q := Lib.hid (blk_b Q0.out Hk.out)
      refine hK2.out _ _ (Kt.out _ BD.out) (fun hS2 => ?_)
      clear hK2 hS1 hS Q0
      (try simp only [Act.put])
      refine wpAnyZ_take (i := 5) (v := ?vtb5) rfl (by kernel_rfl) (by kernel_rfl) (by kernel_rfl) (by kernel_rfl) (fun _ _ _ h => h) (Or.inl ⟨by kernel_rfl, ?ytb5⟩) (by with_reducible assumption) ?rtb5
      case ytb5 => (intro w hSw; (try dsimp only at hSw); go_simp; (try with_reducible rfl))
      simp only [Act.put]
      refine wpAnyZ_take (i := 6) (v := ?vtb6) rfl (by kernel_rfl) (by kernel_rfl) (by kernel_rfl) (by kernel_rfl) (fun _ _ _ h => h) (Or.inl ⟨by kernel_rfl, ?ytb6⟩) (by with_reducible assumption) ?rtb6
      case ytb6 => (intro w hSw; (try dsimp only at hSw); go_simp; (try with_reducible rfl))
      simp only [Act.put]
      refine wpAnyZ_take (i := 7) (v := ?vtb7) rfl (by kernel_rfl) (by kernel_rfl) (by kernel_rfl) (by kernel_rfl) (fun _ _ _ h => h) (Or.inl ⟨by kernel_rfl, ?ytb7⟩) (by with_reducible assumption) ?rtb7
      case ytb7 => (intro w hSw; (try dsimp only at hSw); go_simp; (try with_reducible rfl))
      simp only [Act.put]
      obtain ⟨d0, d1⟩ := two_cells Q.out
      obtain ⟨f0, f1⟩ := two_frozen Q.out
      refine wpAnyZ_step (i := 9) (by kernel_rfl) rfl ?_
      intro K3 hK3
      go_simp
      have QV := Lib.hid (VA.put (m := k9) O9.out hl9 Q.out)
      have BE := Lib.hid ((BD.out.setCell (p := ⟨wd.heap.size, 0, none⟩) (Nat.le_refl _) (.int .i64 k9)).setCell (p := ⟨wd.heap.size, 1, none⟩) (Nat.le_refl _) (.slice A9 v.length cap9))
      refine hK3.out _ _ (Kt.out _ BE.out) (fun hS3 => ?_)
      clear hK3 hS2 d0 d1 f0 f1
      (try simp only [Act.put])
      refine wpAnyZ_last (i := 10) (by kernel_rfl) rfl (by kernel_rfl) ?_
      intro K4 hK4
      go_simp
      refine hK4.out _ _ ?_
      clear hK4
      go_wp2_with fail
      go_meet
      exact ⟨_, k9, A9, cap9, rfl, rfl, QV, K9, BE⟩
  obtain ⟨P2, k6, B6a, cap7, rfl, rfl, Y8, KY, HB8⟩ := hcut
  obtain ⟨we, rfl⟩ : ∃ we, we = wc := ⟨_, rfl⟩
  have V8 := Lib.hid (V7.out.below HB8.out)
  have M8 := Lib.hid (M7.out.below HB8.out)
  have X8 := Lib.hid (X7.out.below HB8.out)
  have B8 := Lib.hid (below_on B7.out HB8.out)
  clear V7 M7 X7 B7 HB8 Kt hS0
  obtain ⟨x0, x1⟩ := X8.out.cells
  have x2 := X8.out.lt
  obtain ⟨y0, y1⟩ := Y8.out.cells
  have y2 := Y8.out.lt
  go_wp2_with fail
  refine (iMul_r k5 k6 (n : Int) u v rs true _ _ _ _ _ X8.out.2.1 Y8.out.2.1 X8.out.2.2 Y8.out.2.2 (by rw [KX.out, KY.out, WC.out.both]; rfl) (by rw [KX.out, KY.out, WC.out.both]; rfl) (by rw [KX.out, KY.out, WC.out.both]; rfl)).mono ?_
  rintro e w11 ⟨k11, A11, cap11, rfl, K11, O11, hl11, Hk⟩
  have V9 := Lib.hid (V8.out.below Hk.out)
  have M9 := Lib.hid (M8.out.below Hk.out)
  have B9 := Lib.hid (below_on B8.out Hk.out)
  clear V8 M8 X8 Y8 B8 Hk x0 x1 x2 y0 y1 y2 KX KY
  obtain ⟨x0, x1, x2, x3⟩ := V9.out.cells
  have xl := V9.out.lt
  have V10 := Lib.hid (V9.out.al (MO A11 cap11 k11 rs))
  have M10 := Lib.hid (M9.out.al (MO A11 cap11 k11 rs))
  have Z10 := Lib.hid (VA.new rfl O11.out hl11 (m := k11))
  have B10 := Lib.hid (below_al B9.out (Nat.le_refl _) (MO A11 cap11 k11 rs))
  clear V9 M9 O11 B9
  go_wp2_with fail
  refine (iPref_r cs true hll.out V10.out.2 (by rw [WC.out.list]; rfl) (by rw [WC.out.list]; rfl)).mono ?_
  rintro e w12 ⟨A12, cap12, rfl, O12, hl12, Hk⟩
  have V11 := Lib.hid (V10.out.below Hk.out)
  have M11 := Lib.hid (M10.out.below Hk.out)
  have Z11 := Lib.hid (Z10.out.below Hk.out)
  have B11 := Lib.hid (below_on B10.out Hk.out)
  clear V10 M10 Z10 B10 Hk x0 x1 x2 x3 xl
  obtain ⟨x0, x1, x2, x3⟩ := V11.out.cells
  have xl := V11.out.lt
  go_wp2_with fail
  refine (sPref_r cs true hll.out V11.out.2 (by rw [WC.out.list]; rfl) (by rw [WC.out.list]; rfl)).mono ?_
  rintro e w13 ⟨A13, cap13, rfl, O13, hl13, Hk⟩
  have V12 := Lib.hid (V11.out.below Hk.out)
  have M12 := Lib.hid (M11.out.below Hk.out)
  have Z12 := Lib.hid (Z11.out.below Hk.out)
  have L12 : Hid (OwnI w13 A12 cap12 cs) := Lib.hid (own_under O12.out Hk.out)
  have B12 := Lib.hid (below_on B11.out Hk.out)
  clear V11 M11 Z11 O12 B11 Hk x0 x1 x2 x3 xl
  have hcl : cs.length = l.size + 1 := WC.out.len
  obtain ⟨b, off, z, hA, _, hc1, _, hg1⟩ := (L12.out.ints hl12).at_ (k := k) (by omega)
  obtain ⟨b', off', z', hA', hb2, hc2, _, hg2⟩ := (L12.out.ints hl12).at_ (k := l.size) (by omega)
  rw [WC.out.at1] at hg1
  rw [WC.out.at2] at hg2
  subst hg1
  subst hg2
  subst hA
  obtain ⟨rfl, rfl⟩ : b' = b ∧ off' = off := by
    injection hA' with h
    injection h with h1 h2
    exact ⟨h1.symm, h2.symm⟩
  clear hA'
  have hq1 : (k : Int) < (cs.length : Int) := by omega
  have hq2 : (l.size : Int) < (cs.length : Int) := by omega
  have hq3 : (0 : Int) ≤ (l.size : Int) := by omega
  have HCL : Hid ((cs.length : Int) = IntKind.i64.wrap ((l.size : Int) + 1)) := by
    show _ = _
    rw [hcl]
    exact (IntWalk.i64_in _ (by omega)).symm
  have HC1 := Lib.hid hc1
  have HC2 := Lib.hid hc2
  clear hcl hc1 hc2
  have K14 : Hid (∀ w', Below w13.heap.size w13 w' → (Hid (Below w13.heap.size w13 w') ∧ w'.cell? ⟨w11.heap.size, 0, none⟩ = some (.int .i64 k11) ∧ w'.cell? ⟨w11.heap.size, 1, none⟩ = some (.slice A11 rs.length cap11) ∧ w'.cell? ⟨w2.heap.size, 0, none⟩ = some (.int .i64 k2) ∧ w'.cell? ⟨w2.heap.size, 1, none⟩ = some (.slice A4 rs.length cap4) ∧ w'.cell? ⟨w1.heap.size, 0, none⟩ = some (.int .i64 n) ∧ w'.cell? ⟨w1.heap.size, 1, none⟩ = some (.slice A1 xs.length c1) ∧ w'.cell? ⟨w1.heap.size, 2, none⟩ = some (.slice A2 ys.length c2) ∧ w'.cell? ⟨w1.heap.size, 3, none⟩ = some (.slice A3 ss.length c3) ∧ w'.cell? ⟨b', off' + k, none⟩ = some (.int .i64 ca) ∧ w'.cell? ⟨b', off' + l.size, none⟩ = some (.int .i64 cb))) := fun w' h => by
    have a := V12.out.below h
    have m := M12.out.below h
    have x := Z12.out.below h
    exact ⟨h, x.cells.1, x.cells.2, m.cells.1, m.cells.2, a.cells.1, a.cells.2.1, a.cells.2.2.1, a.cells.2.2.2, (grown_of_below h).cell HC1.out (by simp), (grown_of_below h).cell HC2.out (by simp)⟩
  have hS0 := K14.out w13.drew ((Below.refl _ _).drew)
  go_upto_region 14 with fail
  refine wp_region_Z (S := fun w' => Hid (Below w13.heap.size w13 w') ∧ w'.cell? ⟨w11.heap.size, 0, none⟩ = some (.int .i64 k11) ∧ w'.cell? ⟨w11.heap.size, 1, none⟩ = some (.slice A11 rs.length cap11) ∧ w'.cell? ⟨w2.heap.size, 0, none⟩ = some (.int .i64 k2) ∧ w'.cell? ⟨w2.heap.size, 1, none⟩ = some (.slice A4 rs.length cap4) ∧ w'.cell? ⟨w1.heap.size, 0, none⟩ = some (.int .i64 n) ∧ w'.cell? ⟨w1.heap.size, 1, none⟩ = some (.slice A1 xs.length c1) ∧ w'.cell? ⟨w1.heap.size, 2, none⟩ = some (.slice A2 ys.length c2) ∧ w'.cell? ⟨w1.heap.size, 3, none⟩ = some (.slice A3 ss.length c3) ∧ w'.cell? ⟨b', off' + k, none⟩ = some (.int .i64 ca) ∧ w'.cell? ⟨b', off' + l.size, none⟩ = some (.int .i64 cb)) (by kernel_rfl) hS0 (fun hS => ?_)
  clear hS0
  refine wpAnyZ_take (i := 0) (v := ?vz0) rfl (by kernel_rfl) (by kernel_rfl) (by kernel_rfl) (by kernel_rfl) (fun _ _ _ h => h) (Or.inl ⟨by kernel_rfl, ?yz0⟩) (by with_reducible assumption) ?rz0
  case yz0 => (intro w hSw; (try dsimp only at hSw); go_simp; (try with_reducible rfl))
  simp only [Act.put, List.setIfInBounds_toArray]
  refine wpAnyZ_take (i := 1) (v := ?vz1) rfl (by kernel_rfl) (by kernel_rfl) (by kernel_rfl) (by kernel_rfl) (fun _ _ _ h => h) (Or.inl ⟨by kernel_rfl, ?yz1⟩) (by with_reducible assumption) ?rz1
  case yz1 => (intro w hSw; (try dsimp only at hSw); go_simp; (try with_reducible rfl))
  simp only [Act.put]
  refine wpAnyZ_take (i := 2) (v := ?vz2) rfl (by kernel_rfl) (by kernel_rfl) (by kernel_rfl) (by kernel_rfl) (fun _ _ _ h => h) (Or.inl ⟨by kernel_rfl, ?yz2⟩) (by with_reducible assumption) ?rz2
  case yz2 => (intro w hSw; (try dsimp only at hSw); go_simp; (try with_reducible rfl))
  simp only [Act.put]
  refine wpAnyZ_take (i := 3) (v := ?vz3) rfl (by kernel_rfl) (by kernel_rfl) (by kernel_rfl) (by kernel_rfl) (fun _ _ _ h => h) (Or.inl ⟨by kernel_rfl, ?yz3⟩) (by with_reducible assumption) ?rz3
  case yz3 => (intro w hSw; (try dsimp only at hSw); go_simp; (try with_reducible rfl))
  simp only [Act.put]
  refine wpAnyZ_step (i := 4) (by kernel_rfl) rfl ?_
  intro K4 hK4
  go_simp
  refine (da_r _ _ _ _ _ _ _ _ (K11.out.trans EM.out.symm) (Z12.out.below hS.1.out).2.1 (M12.out.below hS.1.out).2.1 hl11).mono ?_
  rintro e v4 ⟨rfl, Hk⟩
  have BV4 := Lib.hid (below_on hS.1.out Hk.out)
  refine hK4.out _ _ (K14.out _ BV4.out) (fun hS4 => ?_)
  clear hK4 Hk hS
  (try simp only [Act.put])
  refine wpAnyZ_take (i := 5) (v := ?vz5) rfl (by kernel_rfl) (by kernel_rfl) (by kernel_rfl) (by kernel_rfl) (fun _ _ _ h => h) (Or.inl ⟨by kernel_rfl, ?yz5⟩) (by with_reducible assumption) ?rz5
  case yz5 => (intro w hSw; (try dsimp only at hSw); go_simp; (try with_reducible rfl))
  simp only [Act.put]
  refine wpAnyZ_take (i := 6) (v := ?vz6) rfl (by kernel_rfl) (by kernel_rfl) (by kernel_rfl) (by kernel_rfl) (fun _ _ _ h => h) (Or.inl ⟨by kernel_rfl, ?yz6⟩) (by with_reducible assumption) ?rz6
  case yz6 => (intro w hSw; (try dsimp only at hSw); go_simp; (try with_reducible rfl))
  simp only [Act.put]
  refine wpAnyZ_take (i := 7) (v := ?vz7) rfl (by kernel_rfl) (by kernel_rfl) (by kernel_rfl) (by kernel_rfl) (fun _ _ _ h => h) (Or.inl ⟨by kernel_rfl, ?yz7⟩) (by with_reducible assumption) ?rz7
  case yz7 => (intro w hSw; (try dsimp only at hSw); go_simp; (try with_reducible rfl))
  simp only [Act.put]
  refine wpAnyZ_take (i := 8) (v := ?vz8) rfl (by kernel_rfl) (by kernel_rfl) (by kernel_rfl) (by kernel_rfl) (fun _ _ _ h => h) (Or.inl ⟨by kernel_rfl, ?yz8⟩) (by with_reducible assumption) ?rz8
  case yz8 => (intro w hSw; (try dsimp only at hSw); go_simp; (try with_reducible rfl))
  simp only [Act.put]
  refine wpAnyZ_take (i := 9) (v := ?vz9) rfl (by kernel_rfl) (by kernel_rfl) (by kernel_rfl) (by kernel_rfl) (fun _ _ _ h => h) (Or.inl ⟨by kernel_rfl, ?yz9⟩) (by with_reducible assumption) ?rz9
  case yz9 => (intro w hSw; (try dsimp only at hSw); go_simp; (try with_reducible rfl))
  simp only [Act.put]
  refine wpAnyZ_take (i := 10) (v := ?vz10) rfl (by kernel_rfl) (by kernel_rfl) (by kernel_rfl) (by kernel_rfl) (fun _ _ _ h => h) (Or.inl ⟨by kernel_rfl, ?yz10⟩) (by with_reducible assumption) ?rz10
  case yz10 => (intro w hSw; (try dsimp only at hSw); go_simp; (try with_reducible rfl))
  simp only [Act.put]
  refine wpAnyZ_take (i := 11) (v := ?vz11) rfl (by kernel_rfl) (by kernel_rfl) (by kernel_rfl) (by kernel_rfl) (fun _ _ _ h => h) (Or.inl ⟨by kernel_rfl, ?yz11⟩) (by with_reducible assumption) ?rz11
  case yz11 => (intro w hSw; (try dsimp only at hSw); go_simp; (try with_reducible rfl))
  simp only [Act.put]
  refine wpAnyZ_step (i := 12) (by kernel_rfl) rfl ?_
  intro K12 hK12
  go_simp
  refine (daS_r _ _ _ _ _ _ (own_under L12.out hS4.1.out) (own_under O13.out hS4.1.out) hl12).mono ?_
  rintro e v12 ⟨rfl, Hk⟩
  have BV12 := Lib.hid (below_on hS4.1.out Hk.out)
  refine hK12.out _ _ (K14.out _ BV12.out) (fun hS12 => ?_)
  clear hK12 Hk hS4
  (try simp only [Act.put])
  refine wpAnyZ_take (i := 13) (v := ?vz13) rfl (by kernel_rfl) (by kernel_rfl) (by kernel_rfl) (by kernel_rfl) (fun _ _ _ h => h) (Or.inl ⟨by kernel_rfl, ?yz13⟩) (by with_reducible assumption) ?rz13
  case yz13 => (intro w hSw; (try dsimp only at hSw); go_simp; (try with_reducible rfl))
  simp only [Act.put]
  refine wpAnyZ_take (i := 14) (v := ?vz14) rfl (by kernel_rfl) (by kernel_rfl) (by kernel_rfl) (by kernel_rfl) (fun _ _ _ h => h) (Or.inl ⟨by kernel_rfl, ?yz14⟩) (by with_reducible assumption) ?rz14
  case yz14 => (intro w hSw; (try dsimp only at hSw); go_simp; (try with_reducible rfl))
  simp only [Act.put]
  refine wpAnyZ_take (i := 15) (v := ?vz15) rfl (by kernel_rfl) (by kernel_rfl) (by kernel_rfl) (by kernel_rfl) (fun _ _ _ h => h) (Or.inl ⟨by kernel_rfl, ?yz15⟩) (by with_reducible assumption) ?rz15
  case yz15 => (intro w hSw; (try dsimp only at hSw); go_simp; (try with_reducible rfl))
  simp only [Act.put]
  refine wpAnyZ_take (i := 16) (v := ?vz16) rfl (by kernel_rfl) (by kernel_rfl) (by kernel_rfl) (by kernel_rfl) (fun _ _ _ h => h) (Or.inl ⟨by kernel_rfl, ?yz16⟩) (by with_reducible assumption) ?rz16
  case yz16 => (intro w hSw; (try dsimp only at hSw); go_simp; (try with_reducible rfl))
  simp only [Act.put]
  refine wpAnyZ_take (i := 17) (v := ?vz17) rfl (by kernel_rfl) (by kernel_rfl) (by kernel_rfl) (by kernel_rfl) (fun _ _ _ h => h) (Or.inl ⟨by kernel_rfl, ?yz17⟩) (by with_reducible assumption) ?rz17
  case yz17 => (intro w hSw; (try dsimp only at hSw); go_simp; (try with_reducible rfl))
  simp only [Act.put]
  refine wpAnyZ_take (i := 18) (v := ?vz18) rfl (by kernel_rfl) (by kernel_rfl) (by kernel_rfl) (by kernel_rfl) (fun _ _ _ h => h) (Or.inl ⟨by kernel_rfl, ?yz18⟩) (by with_reducible assumption) ?rz18
  case yz18 => (intro w hSw; (try dsimp only at hSw); go_simp; (try with_reducible rfl))
  simp only [Act.put]
  refine wpAnyZ_take (i := 19) (v := ?vz19) rfl (by kernel_rfl) (by kernel_rfl) (by kernel_rfl) (by kernel_rfl) (fun _ _ _ h => h) (Or.inl ⟨by kernel_rfl, ?yz19⟩) (by with_reducible assumption) ?rz19
  case yz19 => (intro w hSw; (try dsimp only at hSw); go_simp; (try with_reducible rfl))
  simp only [Act.put]
  refine wpAnyZ_take (i := 20) (v := .bool true) rfl (by kernel_rfl) (by kernel_rfl) (by kernel_rfl) (by kernel_rfl) (fun _ _ _ h => h) (Or.inl ⟨by kernel_rfl, ?yz20⟩) (by with_reducible assumption) ?rz20
  case yz20 => (intro w hSw; (try dsimp only at hSw); go_simp; (try with_reducible rfl); exact HCL.out)
  simp only [Act.put]
  refine wpAnyZ_take (i := 21) (v := ?vz21) rfl (by kernel_rfl) (by kernel_rfl) (by kernel_rfl) (by kernel_rfl) (fun _ _ _ h => h) (Or.inl ⟨by kernel_rfl, ?yz21⟩) (by with_reducible assumption) ?rz21
  case yz21 => (intro w hSw; (try dsimp only at hSw); go_simp; (try with_reducible rfl))
  simp only [Act.put]
  refine wpAnyZ_take (i := 22) (v := ?vz22) rfl (by kernel_rfl) (by kernel_rfl) (by kernel_rfl) (by kernel_rfl) (fun _ _ _ h => h) (Or.inl ⟨by kernel_rfl, ?yz22⟩) (by with_reducible assumption) ?rz22
  case yz22 => (intro w hSw; (try dsimp only at hSw); go_simp; (try with_reducible rfl))
  simp only [Act.put]
  refine wpAnyZ_take (i := 23) (v := ?vz23) rfl (by kernel_rfl) (by kernel_rfl) (by kernel_rfl) (by kernel_rfl) (fun _ _ _ h => h) (Or.inl ⟨by kernel_rfl, ?yz23⟩) (by with_reducible assumption) ?rz23
  case yz23 => (intro w hSw; (try dsimp only at hSw); go_simp; (try with_reducible rfl))
  simp only [Act.put]
  refine wpAnyZ_take (i := 24) (v := ?vz24) rfl (by kernel_rfl) (by kernel_rfl) (by kernel_rfl) (by kernel_rfl) (fun _ _ _ h => h) (Or.inl ⟨by kernel_rfl, ?yz24⟩) (by with_reducible assumption) ?rz24
  case yz24 => (intro w hSw; (try dsimp only at hSw); go_simp; (try with_reducible rfl))
  simp only [Act.put]
  refine wpAnyZ_take (i := 25) (v := ?vz25) rfl (by kernel_rfl) (by kernel_rfl) (by kernel_rfl) (by kernel_rfl) (fun _ _ _ h => h) (Or.inl ⟨by kernel_rfl, ?yz25⟩) (by with_reducible assumption) ?rz25
  case yz25 => (intro w hSw; (try dsimp only at hSw); go_simp; (try with_reducible rfl))
  simp only [Act.put]
  refine wpAnyZ_take (i := 26) (v := ?vz26) rfl (by kernel_rfl) (by kernel_rfl) (by kernel_rfl) (by kernel_rfl) (fun _ _ _ h => h) (Or.inl ⟨by kernel_rfl, ?yz26⟩) (by with_reducible assumption) ?rz26
  case yz26 => (intro w hSw; (try dsimp only at hSw); go_simp; (try with_reducible rfl))
  simp only [Act.put]
  refine wpAnyZ_take (i := 27) (v := ?vz27) rfl (by kernel_rfl) (by kernel_rfl) (by kernel_rfl) (by kernel_rfl) (fun _ _ _ h => h) (Or.inl ⟨by kernel_rfl, ?yz27⟩) (by with_reducible assumption) ?rz27
  case yz27 => (intro w hSw; (try dsimp only at hSw); go_simp; (try with_reducible rfl))
  simp only [Act.put]
  refine wpAnyZ_take (i := 28) (v := ?vz28) rfl (by kernel_rfl) (by kernel_rfl) (by kernel_rfl) (by kernel_rfl) (fun _ _ _ h => h) (Or.inl ⟨by kernel_rfl, ?yz28⟩) (by with_reducible assumption) ?rz28
  case yz28 => (intro w hSw; (try dsimp only at hSw); go_simp; (try with_reducible rfl))
  simp only [Act.put]
  refine wpAnyZ_take (i := 29) (v := ?vz29) rfl (by kernel_rfl) (by kernel_rfl) (by kernel_rfl) (by kernel_rfl) (fun _ _ _ h => h) (Or.inl ⟨by kernel_rfl, ?yz29⟩) (by with_reducible assumption) ?rz29
  case yz29 => (intro w hSw; (try dsimp only at hSw); go_simp; (try with_reducible rfl))
  simp only [Act.put]
  refine wpAnyZ_take (i := 30) (v := ?vz30) rfl (by kernel_rfl) (by kernel_rfl) (by kernel_rfl) (by kernel_rfl) (fun _ _ _ h => h) (Or.inl ⟨by kernel_rfl, ?yz30⟩) (by with_reducible assumption) ?rz30
  case yz30 => (intro w hSw; (try dsimp only at hSw); go_simp; (try with_reducible rfl))
  simp only [Act.put]
  refine wpAnyZ_step (i := 31) (by kernel_rfl) rfl ?_
  intro K31 hK31
  go_simp
  refine (iCost_r ca HLF.out (V12.out.below hS12.1.out).2 WC.out.cost1).mono ?_
  rintro e v31 ⟨rfl, Hk⟩
  have BV31 := Lib.hid (below_on hS12.1.out Hk.out)
  refine hK31.out _ _ (K14.out _ BV31.out) (fun hS31 => ?_)
  clear hK31 Hk hS12
  (try simp only [Act.put])
  refine wpAnyZ_take (i := 32) (v := ?vz32) rfl (by kernel_rfl) (by kernel_rfl) (by kernel_rfl) (by kernel_rfl) (fun _ _ _ h => h) (Or.inl ⟨by kernel_rfl, ?yz32⟩) (by with_reducible assumption) ?rz32
  case yz32 => (intro w hSw; (try dsimp only at hSw); go_simp; (try with_reducible rfl))
  simp only [Act.put]
  refine wpAnyZ_take (i := 33) (v := ?vz33) rfl (by kernel_rfl) (by kernel_rfl) (by kernel_rfl) (by kernel_rfl) (fun _ _ _ h => h) (Or.inl ⟨by kernel_rfl, ?yz33⟩) (by with_reducible assumption) ?rz33
  case yz33 => (intro w hSw; (try dsimp only at hSw); go_simp; (try with_reducible rfl))
  simp only [Act.put]
  refine wpAnyZ_take (i := 34) (v := ?vz34) rfl (by kernel_rfl) (by kernel_rfl) (by kernel_rfl) (by kernel_rfl) (fun _ _ _ h => h) (Or.inl ⟨by kernel_rfl, ?yz34⟩) (by with_reducible assumption) ?rz34
  case yz34 => (intro w hSw; (try dsimp only at hSw); go_simp; (try with_reducible rfl))
  simp only [Act.put]
  refine wpAnyZ_take (i := 35) (v := ?vz35) rfl (by kernel_rfl) (by kernel_rfl) (by kernel_rfl) (by kernel_rfl) (fun _ _ _ h => h) (Or.inl ⟨by kernel_rfl, ?yz35⟩) (by with_reducible assumption) ?rz35
  case yz35 => (intro w hSw; (try dsimp only at hSw); go_simp; (try with_reducible rfl))
  simp only [Act.put]
  refine wpAnyZ_take (i := 36) (v := ?vz36) rfl (by kernel_rfl) (by kernel_rfl) (by kernel_rfl) (by kernel_rfl) (fun _ _ _ h => h) (Or.inl ⟨by kernel_rfl, ?yz36⟩) (by with_reducible assumption) ?rz36
  case yz36 => (intro w hSw; (try dsimp only at hSw); go_simp; (try with_reducible rfl))
  simp only [Act.put]
  refine wpAnyZ_take (i := 37) (v := ?vz37) rfl (by kernel_rfl) (by kernel_rfl) (by kernel_rfl) (by kernel_rfl) (fun _ _ _ h => h) (Or.inl ⟨by kernel_rfl, ?yz37⟩) (by with_reducible assumption) ?rz37
  case yz37 => (intro w hSw; (try dsimp only at hSw); go_simp; (try with_reducible rfl))
  simp only [Act.put]
  refine wpAnyZ_take (i := 38) (v := ?vz38) rfl (by kernel_rfl) (by kernel_rfl) (by kernel_rfl) (by kernel_rfl) (fun _ _ _ h => h) (Or.inl ⟨by kernel_rfl, ?yz38⟩) (by with_reducible assumption) ?rz38
  case yz38 => (intro w hSw; (try dsimp only at hSw); go_simp; (try with_reducible rfl))
  simp only [Act.put]
  refine wpAnyZ_take (i := 39) (v := ?vz39) rfl (by kernel_rfl) (by kernel_rfl) (by kernel_rfl) (by kernel_rfl) (fun _ _ _ h => h) (Or.inl ⟨by kernel_rfl, ?yz39⟩) (by with_reducible assumption) ?rz39
  case yz39 => (intro w hSw; (try dsimp only at hSw); go_simp; (try with_reducible rfl))
  simp only [Act.put]
  refine wpAnyZ_take (i := 40) (v := ?vz40) rfl (by kernel_rfl) (by kernel_rfl) (by kernel_rfl) (by kernel_rfl) (fun _ _ _ h => h) (Or.inl ⟨by kernel_rfl, ?yz40⟩) (by with_reducible assumption) ?rz40
  case yz40 => (intro w hSw; (try dsimp only at hSw); go_simp; (try with_reducible rfl))
  simp only [Act.put]
  refine wpAnyZ_take (i := 41) (v := ?vz41) rfl (by kernel_rfl) (by kernel_rfl) (by kernel_rfl) (by kernel_rfl) (fun _ _ _ h => h) (Or.inl ⟨by kernel_rfl, ?yz41⟩) (by with_reducible assumption) ?rz41
  case yz41 => (intro w hSw; (try dsimp only at hSw); go_simp; (try with_reducible rfl))
  simp only [Act.put]
  refine wpAnyZ_step (i := 42) (by kernel_rfl) rfl ?_
  intro K42 hK42
  go_simp
  refine (iCost_r cb hll.out (V12.out.below hS31.1.out).2 WC.out.cost2).mono ?_
  rintro e v42 ⟨rfl, Hk⟩
  have BV42 := Lib.hid (below_on hS31.1.out Hk.out)
  refine hK42.out _ _ (K14.out _ BV42.out) (fun hS42 => ?_)
  clear hK42 Hk hS31
  (try simp only [Act.put])
  refine wpAnyZ_take (i := 43) (v := ?vz43) rfl (by kernel_rfl) (by kernel_rfl) (by kernel_rfl) (by kernel_rfl) (fun _ _ _ h => h) (Or.inl ⟨by kernel_rfl, ?yz43⟩) (by with_reducible assumption) ?rz43
  case yz43 => (intro w hSw; (try dsimp only at hSw); go_simp; (try with_reducible rfl))
  simp only [Act.put]
  refine wpAnyZ_take (i := 44) (v := ?vz44) rfl (by kernel_rfl) (by kernel_rfl) (by kernel_rfl) (by kernel_rfl) (fun _ _ _ h => h) (Or.inl ⟨by kernel_rfl, ?yz44⟩) (by with_reducible assumption) ?rz44
  case yz44 => (intro w hSw; (try dsimp only at hSw); go_simp; (try with_reducible rfl))
  simp only [Act.put]
  refine wpAnyZ_last (i := 45) (by kernel_rfl) rfl (by kernel_rfl) ?_
  intro K45 hK45
  go_simp
  refine hK45.out _ _ ?_
  clear hK45
  go_wp2_with fail
  go_ret
  exact ⟨rfl, below_on B12.out BV42.out⟩
end Go.Proofs.YtjhaegkefagngaaGreatDoor
