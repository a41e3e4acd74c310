/- The walk of the exact law FnExactMulGrades: it returns true for all arguments; nothing that was there changes. No condition. -/
import Derived.Test.YteanpmeelphhbaaGSpec2
import Derived.Test.YteanpmeelphhbaaVar
import Derived.Test.YteanpmeelphhbaaMark
import Derived.Deep.RegionHeld3
import Derived.Deep.DeepCutAuto
namespace Go.Proofs.Yteanpmeelphhbaa
open Go.RowKit
set_option maxHeartbeats 4000000
set_option maxRecDepth 100000
set_option linter.unusedVariables false

theorem FnExactMulGrades_walk (m0 : Int) (A : Option Addr) (cap : Nat) (zs : List Int) (m0' : Int) (A' : Option Addr) (cap' : Nat) (ys : List Int) (w : World) (hz : IRow .i64 w w.heap.size A zs) (hy : IRow .i64 w w.heap.size A' ys) :
    Calls Try.prog 5 #[.agg #[.int .i64 m0, .slice A zs.length cap], .agg #[.int .i64 m0', .slice A' ys.length cap']] w fun e w' => e = .returned (.bool true) ∧ Below w.heap.size w w' := by
  have hl := hz.len
  have hl' := hy.len
  obtain ⟨r, hr⟩ : ∃ r, r = gmulR m0 zs m0' ys := ⟨_, rfl⟩
  obtain ⟨m, hm⟩ : ∃ m, m = (r.getD (0, [])).1 := ⟨_, rfl⟩
  obtain ⟨vs, hvs⟩ : ∃ vs, vs = (r.getD (0, [])).2 := ⟨_, rfl⟩
  obtain ⟨ok, hok⟩ : ∃ ok, ok = r.isSome := ⟨_, rfl⟩
  have hS := fun w0 A0 B0 cap0 cap1 (h0 : Ints w0 w0.heap.size A0 zs) (h1 : Ints w0 w0.heap.size B0 ys) => sMulGrades_any m0 m0' A0 B0 cap0 cap1 zs ys w0 h0 h1
  have hI := fun w0 A0 B0 cap0 cap1 (h0 : Ints w0 w0.heap.size A0 zs) (h1 : Ints w0 w0.heap.size B0 ys) => iMulGrades_any m0 m0' A0 B0 cap0 cap1 zs ys w0 h0 h1
  unfold MEnd at hS hI
  rw [← hr, ← hm, ← hvs, ← hok] at hS hI
  have HS := Lib.hid hS
  have HI := Lib.hid hI
  clear hS hI hr hm hvs hok
  have hb0 := below_a2 w (.cells #[.int .i64 m0, .slice A zs.length cap] 24) (.cells #[.int .i64 m0', .slice A' ys.length cap'] 24)
  by_cases hs : ¬ (zs.length : Int) ≤ 1048576
  · go_enter Try.func5, Try.ntmps5
    go_wp2_with fail
    refine (szMatrix_no _ _ _ _ _ _ (by omega) (by omega) (by omega) hl).mono ?_
    rintro e w1 ⟨rfl, hb1⟩
    go_wp2_with fail
    go_ret
    exact ⟨rfl, below_on hb0 hb1⟩
  have hs := Decidable.of_not_not hs
  by_cases hs' : ¬ (ys.length : Int) ≤ 1048576 - zs.length
  · go_enter Try.func5, Try.ntmps5
    go_wp2_with fail
    refine (szMatrix_ok _ _ _ _ _ _ _ (by omega) (by omega) hs rfl).mono ?_
    rintro e w1 ⟨rfl, hb1⟩
    have bB : Blk w1 (w.heap.size + 1) 24 #[.int .i64 m0', .slice A' ys.length cap'] := (blk_new (by simp)).below hb1 (by simp)
    have hbA := below_on hb0 hb1
    obtain ⟨b0, b1⟩ := two_cells bB
    go_wp2_with fail
    refine (szMatrix_no _ _ _ _ _ _ (by omega) (by omega) (by omega) hl').mono ?_
    rintro e w2 ⟨rfl, hb2⟩
    go_wp2_with fail
    go_ret
    exact ⟨rfl, below_on hbA hb2⟩
  have hs' := Decidable.of_not_not hs'
  go_enter Try.func5, Try.ntmps5
  go_wp2_with fail
  refine (szMatrix_ok _ _ _ _ _ _ _ (by omega) (by omega) hs rfl).mono ?_
  rintro e w1 ⟨rfl, hb1⟩
  have bA : Blk w1 w.heap.size 24 #[.int .i64 m0, .slice A zs.length cap] := ((Blk.new w _ _).alloc _).below hb1 (by simp; omega)
  have bB : Blk w1 (w.heap.size + 1) 24 #[.int .i64 m0', .slice A' ys.length cap'] := (blk_new (by simp)).below hb1 (by simp)
  have hbA := below_on hb0 hb1
  obtain ⟨b0, b1⟩ := two_cells bB
  go_wp2_with fail
  refine (szMatrix_ok _ _ _ _ _ _ _ (by omega) (by omega) hs' rfl).mono ?_
  rintro e w2 ⟨rfl, hb2⟩
  clear b0 b1
  have FB2 := Lib.hid (below_on hbA hb2)
  have FA2 := Lib.hid (bA.below hb2 (Blk.lt bA))
  have FC2 := Lib.hid (bB.below hb2 (Blk.lt bB))
  have hsz : zs.length ≤ 1048576 := by omega
  have hsy : ys.length ≤ 1048576 := by omega
  have KZ : Hid (∀ w', Below w.heap.size w w' → Ints w' w'.heap.size A zs) := fun w' h => (hz.below h).more h.size
  have KY : Hid (∀ w', Below w.heap.size w w' → Ints w' w'.heap.size A' ys) := fun w' h => (hy.below h).more h.size
  clear hb0 hb1 hb2 hbA bA bB hz hy
  have keep : ∀ w', Below w2.heap.size w2 w' → (Hid (Below w2.heap.size w2 (w')) ∧ (w').cell? ⟨w.heap.size, 0, none⟩ = some (.int .i64 m0) ∧ (w').cell? ⟨w.heap.size, 1, none⟩ = some (.slice A zs.length cap) ∧ (w').cell? ⟨w.heap.size + 1, 0, none⟩ = some (.int .i64 m0') ∧ (w').cell? ⟨w.heap.size + 1, 1, none⟩ = some (.slice A' ys.length cap')) :=
    fun w' h => ⟨h, (cells_below FA2.out h).1, (cells_below FA2.out h).2, (cells_below FC2.out h).1, (cells_below FC2.out h).2⟩
  have KZS : Hid (∀ w', (Hid (Below w2.heap.size w2 (w')) ∧ (w').cell? ⟨w.heap.size, 0, none⟩ = some (.int .i64 m0) ∧ (w').cell? ⟨w.heap.size, 1, none⟩ = some (.slice A zs.length cap) ∧ (w').cell? ⟨w.heap.size + 1, 0, none⟩ = some (.int .i64 m0') ∧ (w').cell? ⟨w.heap.size + 1, 1, none⟩ = some (.slice A' ys.length cap')) → Ints w' w'.heap.size A zs) := fun w' h => KZ.out _ (below_on FB2.out h.1.out)
  have KYS : Hid (∀ w', (Hid (Below w2.heap.size w2 (w')) ∧ (w').cell? ⟨w.heap.size, 0, none⟩ = some (.int .i64 m0) ∧ (w').cell? ⟨w.heap.size, 1, none⟩ = some (.slice A zs.length cap) ∧ (w').cell? ⟨w.heap.size + 1, 0, none⟩ = some (.int .i64 m0') ∧ (w').cell? ⟨w.heap.size + 1, 1, none⟩ = some (.slice A' ys.length cap')) → Ints w' w'.heap.size A' ys) := fun w' h => KY.out _ (below_on FB2.out h.1.out)
  have KB : Hid (∀ w' w'', (Hid (Below w2.heap.size w2 (w')) ∧ (w').cell? ⟨w.heap.size, 0, none⟩ = some (.int .i64 m0) ∧ (w').cell? ⟨w.heap.size, 1, none⟩ = some (.slice A zs.length cap) ∧ (w').cell? ⟨w.heap.size + 1, 0, none⟩ = some (.int .i64 m0') ∧ (w').cell? ⟨w.heap.size + 1, 1, none⟩ = some (.slice A' ys.length cap')) → Below w'.heap.size w' w'' → (Hid (Below w2.heap.size w2 (w'')) ∧ (w'').cell? ⟨w.heap.size, 0, none⟩ = some (.int .i64 m0) ∧ (w'').cell? ⟨w.heap.size, 1, none⟩ = some (.slice A zs.length cap) ∧ (w'').cell? ⟨w.heap.size + 1, 0, none⟩ = some (.int .i64 m0') ∧ (w'').cell? ⟨w.heap.size + 1, 1, none⟩ = some (.slice A' ys.length cap'))) := fun w' w'' h hb => keep _ (below_on h.1.out hb)
  have KA : Hid (∀ w' o, (Hid (Below w2.heap.size w2 (w')) ∧ (w').cell? ⟨w.heap.size, 0, none⟩ = some (.int .i64 m0) ∧ (w').cell? ⟨w.heap.size, 1, none⟩ = some (.slice A zs.length cap) ∧ (w').cell? ⟨w.heap.size + 1, 0, none⟩ = some (.int .i64 m0') ∧ (w').cell? ⟨w.heap.size + 1, 1, none⟩ = some (.slice A' ys.length cap')) → (Hid (Below w2.heap.size w2 (w'.alloc o)) ∧ (w'.alloc o).cell? ⟨w.heap.size, 0, none⟩ = some (.int .i64 m0) ∧ (w'.alloc o).cell? ⟨w.heap.size, 1, none⟩ = some (.slice A zs.length cap) ∧ (w'.alloc o).cell? ⟨w.heap.size + 1, 0, none⟩ = some (.int .i64 m0') ∧ (w'.alloc o).cell? ⟨w.heap.size + 1, 1, none⟩ = some (.slice A' ys.length cap'))) := fun w' o h => keep _ (below_al h.1.out (Nat.le_refl _) o)
  have KC : Hid (∀ w' b i v, w2.heap.size ≤ b → (Hid (Below w2.heap.size w2 (w')) ∧ (w').cell? ⟨w.heap.size, 0, none⟩ = some (.int .i64 m0) ∧ (w').cell? ⟨w.heap.size, 1, none⟩ = some (.slice A zs.length cap) ∧ (w').cell? ⟨w.heap.size + 1, 0, none⟩ = some (.int .i64 m0') ∧ (w').cell? ⟨w.heap.size + 1, 1, none⟩ = some (.slice A' ys.length cap')) → (Hid (Below w2.heap.size w2 (w'.setCell ⟨b, i, none⟩ v)) ∧ (w'.setCell ⟨b, i, none⟩ v).cell? ⟨w.heap.size, 0, none⟩ = some (.int .i64 m0) ∧ (w'.setCell ⟨b, i, none⟩ v).cell? ⟨w.heap.size, 1, none⟩ = some (.slice A zs.length cap) ∧ (w'.setCell ⟨b, i, none⟩ v).cell? ⟨w.heap.size + 1, 0, none⟩ = some (.int .i64 m0') ∧ (w'.setCell ⟨b, i, none⟩ v).cell? ⟨w.heap.size + 1, 1, none⟩ = some (.slice A' ys.length cap'))) := fun w' b i v hb h => keep _ (h.1.out.setCell (p := ⟨b, i, none⟩) hb v)
  have KD : Hid (∀ o, (Hid (Below w2.heap.size w2 ((w2.alloc o).drew)) ∧ ((w2.alloc o).drew).cell? ⟨w.heap.size, 0, none⟩ = some (.int .i64 m0) ∧ ((w2.alloc o).drew).cell? ⟨w.heap.size, 1, none⟩ = some (.slice A zs.length cap) ∧ ((w2.alloc o).drew).cell? ⟨w.heap.size + 1, 0, none⟩ = some (.int .i64 m0') ∧ ((w2.alloc o).drew).cell? ⟨w.heap.size + 1, 1, none⟩ = some (.slice A' ys.length cap'))) := fun o => keep _ (below_al (Below.refl _ _) (Nat.le_refl _) o).drew
  have hS0 := keep w2.drew ((Below.refl _ _).drew)
  have hNw : w.heap.size ≤ w2.heap.size := FB2.out.size
  clear keep
  go_upto_region 8 with fail
  go_cut [6, 7] (fun s1 s2 wx => ∃ (P : Nat) (A1 : Option Addr) (cap1 : Nat), s1 = .pointer (some ⟨P, 0, none⟩) ∧ s2 = .bool ok ∧ vs.length ≤ 1048577 ∧ Hid (VarAt w2 wx w.heap.size P 27 m (.slice A1 vs.length cap1) vs))
  case first =>
    go_region_held3 (fun w' => Hid (Below w2.heap.size w2 (w')) ∧ (w').cell? ⟨w.heap.size, 0, none⟩ = some (.int .i64 m0) ∧ (w').cell? ⟨w.heap.size, 1, none⟩ = some (.slice A zs.length cap) ∧ (w').cell? ⟨w.heap.size + 1, 0, none⟩ = some (.int .i64 m0') ∧ (w').cell? ⟨w.heap.size + 1, 1, none⟩ = some (.slice A' ys.length cap')) (first | with_reducible assumption | with_reducible exact KD.out _ | (refine KA.out _ _ ?_; with_reducible assumption) | (refine KC.out _ _ _ _ ?_ ?_; (first | omega | (simp; omega) | (simp at *; omega)); with_reducible assumption) | (refine KC.out _ _ _ _ ?_ (KC.out _ _ _ _ ?_ ?_); (first | omega | (simp; omega) | (simp at *; omega)); (first | omega | (simp; omega) | (simp at *; omega)); with_reducible assumption) | skip)
      (first
        | (go_at_call_of 10 (Value.slice A zs.length cap); refine (toMatrix_any _ _ _ _ _ (KZS.out _ (by with_reducible assumption)) hsz).mono ?_; rintro e w3 ⟨_, rfl, ⟨A3, cap3, rfl, hc3, hi3⟩, hb3⟩; have hS1 := KB.out _ _ (by with_reducible assumption) hb3; have z3 := hS1.1.out.size; have y3 := hb3.size; (try simp at y3))
        | (go_at_call_of 10 (Value.slice A' ys.length cap'); refine (toMatrix_any _ _ _ _ _ (KYS.out _ (by with_reducible assumption)) hsy).mono ?_; rintro e w4 ⟨_, rfl, ⟨A4, cap4, rfl, hc4, hi4⟩, hb4⟩; have hS2 := KB.out _ _ (by with_reducible assumption) hb4; (first | have hi3' := (hi3.below hb4).more hb4.size | have hi3' := ((ints_al hi3 _).below hb4).more hb4.size); have z4 := hS2.1.out.size; have y4 := hb4.size; (try simp at y4))
        | (go_at_call 17; (first | refine (HS.out _ _ _ _ _ hi3' hi4).mono ?_ | refine (HS.out _ _ _ _ _ (ints_al hi3' _) (ints_al hi4 _)).mono ?_); rintro e w5 ⟨_, rfl, ⟨x3, rfl, ho3, hl3⟩, hb5⟩; obtain ⟨A1, cap1, rfl, _, hi3x⟩ := own_ints ho3 (by unfold maxLen; omega); have hS3 := KB.out _ _ (by with_reducible assumption) hb5; have z5 := hS3.1.out.size; have y5 := hb5.size; (try simp at y5); (first | (have QB : Blk w5 w2.heap.size 27 #[.int .i64 0, .slice none 0 0] := blk_b (blk_b (blk_b (show Blk (w2.alloc (.cells #[.int .i64 0, .slice none 0 0] 27)).drew w2.heap.size 27 #[.int .i64 0, .slice none 0 0] from Blk.new w2 27 #[.int .i64 0, .slice none 0 0]) hb3) hb4) hb5; obtain ⟨q0, q1⟩ := two_cells QB; obtain ⟨f0, f1⟩ := two_frozen QB) | (have QB : Blk w5 w3.heap.size 27 #[.int .i64 0, .slice none 0 0] := blk_b (blk_b (Blk.new w3 27 #[.int .i64 0, .slice none 0 0]) hb4) hb5; obtain ⟨q0, q1⟩ := two_cells QB; obtain ⟨f0, f1⟩ := two_frozen QB) | (have QB : Blk w5 w4.heap.size 27 #[.int .i64 0, .slice none 0 0] := blk_b (Blk.new w4 27 #[.int .i64 0, .slice none 0 0]) hb5; obtain ⟨q0, q1⟩ := two_cells QB; obtain ⟨f0, f1⟩ := two_frozen QB) | skip)))
    all_goals (go_wp2_with fail; go_meet)
    · exact ⟨_, A1, cap1, rfl, rfl, hl3, Lib.hid (var_new hS3.1.out rfl ho3 (by omega))⟩
    all_goals exact ⟨_, A1, cap1, rfl, rfl, hl3, Lib.hid (var_set hS3.1.out (by omega) QB ho3 (fun j hj => by have hh := (ho3.lt j hj).1; (try simp at hh); omega) (by (try simp); omega))⟩
  case rest =>
    obtain ⟨P, A1, cap1, rfl, rfl, hlv, hV⟩ := hcut
    obtain ⟨hVb, hVp, hVk, hVo, hVj⟩ := hV.out
    clear hV hS0 hNw KZS KYS KB KA KC KD
    have hNP : w.heap.size + 1 < P := Nat.lt_of_lt_of_le (Blk.lt FC2.out) hVp
    have FBc := Lib.hid (below_on FB2.out hVb)
    have FAc := Lib.hid (blk_b FA2.out hVb)
    have FCc := Lib.hid (blk_b FC2.out hVb)
    clear FB2 FA2 FC2
    have FPc := Lib.hid hVk
    have FOc := Lib.hid hVo
    have D1 : Hid (∀ j, (Value.slice A1 vs.length cap1).ownBlock = some j → j < wc.heap.size) := hVj
    have hPc : P < wc.heap.size := Blk.lt hVk
    obtain ⟨u0, u1⟩ := two_cells FAc.out
    clear hVb hVp hVk hVo hVj
    go_wp2_with fail
    refine (toMatrix_own _ _ _ _ _ (KZ.out _ FBc.out) hsz).mono ?_
    rintro e d1 ⟨g0, rfl, hox, hb⟩
    have hg0 := (hox.lt g0 rfl).1
    have hg0' := (hox.lt g0 rfl).2
    have hcw := FBc.out.size
    have FBd1 := Lib.hid (below_on FBc.out hb)
    have FAd1 := Lib.hid (blk_b FAc.out hb)
    have FCd1 := Lib.hid (blk_b FCc.out hb)
    have FPd1 := Lib.hid (blk_b FPc.out hb)
    have FOd1 := Lib.hid (own_under FOc.out hb)
    clear FBc FAc FCc FPc FOc
    have FXd1 := Lib.hid (own_base hox hcw)
    have v0 : ∀ o, (d1.alloc o).cell? ⟨w.heap.size + 1, 0, none⟩ = some (.int .i64 m0') := fun o => (FCd1.out.alloc o).cell 0
    have v1 : ∀ o, (d1.alloc o).cell? ⟨w.heap.size + 1, 1, none⟩ = some (.slice A' ys.length cap') := fun o => (FCd1.out.alloc o).cell 1
    clear hb hox hcw u0 u1
    go_wp2_with fail
    refine (toMatrix_own _ _ _ _ _ (KY.out _ (below_al FBd1.out (Nat.le_refl _) _)) hsy).mono ?_
    rintro e d2 ⟨g1, rfl, hox, hb⟩
    obtain ⟨X, hX⟩ : ∃ X, X = d1.heap.size := ⟨_, rfl⟩
    have hg1 := (hox.lt g1 rfl).1
    have hg1' := (hox.lt g1 rfl).2
    have hdw := FBd1.out.size
    have FBd2 := Lib.hid (below_on (below_al FBd1.out (Nat.le_refl _) (.cells #[.int .i64 m0, .slice (some ⟨g0, 0, none⟩) zs.length zs.length] 27)) hb)
    have FAd2 := Lib.hid (blk_b (FAd1.out.alloc (.cells #[.int .i64 m0, .slice (some ⟨g0, 0, none⟩) zs.length zs.length] 27)) hb)
    have FCd2 := Lib.hid (blk_b (FCd1.out.alloc (.cells #[.int .i64 m0, .slice (some ⟨g0, 0, none⟩) zs.length zs.length] 27)) hb)
    have FPd2 := Lib.hid (blk_b (FPd1.out.alloc (.cells #[.int .i64 m0, .slice (some ⟨g0, 0, none⟩) zs.length zs.length] 27)) hb)
    have FOd2 := Lib.hid (own_under (FOd1.out.alloc (.cells #[.int .i64 m0, .slice (some ⟨g0, 0, none⟩) zs.length zs.length] 27)) hb)
    have FXd2 := Lib.hid (own_under (FXd1.out.alloc (.cells #[.int .i64 m0, .slice (some ⟨g0, 0, none⟩) zs.length zs.length] 27)) hb)
    clear FBd1 FAd1 FCd1 FPd1 FOd1 FXd1
    have FUd2 := Lib.hid (blk_b (Blk.new d1 27 #[.int .i64 m0, .slice (some ⟨g0, 0, none⟩) zs.length zs.length]) hb)
    have FYd2 := Lib.hid (own_base hox (show w.heap.size ≤ _ by simp; omega))
    simp at hg1
    rw [← hX] at FUd2 hg1 hg0'
    rw [← hX]
    have x0 : ∀ o, (d2.alloc o).cell? ⟨X, 0, none⟩ = some (.int .i64 m0) := fun o => (FUd2.out.alloc o).cell 0
    have x1 : ∀ o, (d2.alloc o).cell? ⟨X, 1, none⟩ = some (.slice (some ⟨g0, 0, none⟩) zs.length zs.length) := fun o => (FUd2.out.alloc o).cell 1
    have hXd2 := Blk.lt FUd2.out
    have hXne : ¬ X = d2.heap.size := by omega
    clear hb hox hdw v0 v1 hX
    go_wp2_with fail
    obtain ⟨Y, hY⟩ : ∃ Y, Y = d2.heap.size := ⟨_, rfl⟩
    rw [← hY]
    obtain ⟨d3, hd3⟩ : ∃ d3, d3 = d2.alloc (.cells #[.int .i64 m0', .slice (some ⟨g1, 0, none⟩) ys.length ys.length] 27) := ⟨_, rfl⟩
    rw [← hd3]
    have FBd3 := Lib.hid (below_al FBd2.out (Nat.le_refl _) (.cells #[.int .i64 m0', .slice (some ⟨g1, 0, none⟩) ys.length ys.length] 27))
    have FAd3 := Lib.hid (FAd2.out.alloc (.cells #[.int .i64 m0', .slice (some ⟨g1, 0, none⟩) ys.length ys.length] 27))
    have FCd3 := Lib.hid (FCd2.out.alloc (.cells #[.int .i64 m0', .slice (some ⟨g1, 0, none⟩) ys.length ys.length] 27))
    have FPd3 := Lib.hid (FPd2.out.alloc (.cells #[.int .i64 m0', .slice (some ⟨g1, 0, none⟩) ys.length ys.length] 27))
    have FOd3 := Lib.hid (FOd2.out.alloc (.cells #[.int .i64 m0', .slice (some ⟨g1, 0, none⟩) ys.length ys.length] 27))
    have FXd3 := Lib.hid (FXd2.out.alloc (.cells #[.int .i64 m0', .slice (some ⟨g1, 0, none⟩) ys.length ys.length] 27))
    have FUd3 := Lib.hid (FUd2.out.alloc (.cells #[.int .i64 m0', .slice (some ⟨g1, 0, none⟩) ys.length ys.length] 27))
    have FYd3 := Lib.hid (FYd2.out.alloc (.cells #[.int .i64 m0', .slice (some ⟨g1, 0, none⟩) ys.length ys.length] 27))
    have FVd3 := Lib.hid (Blk.new d2 27 #[.int .i64 m0', .slice (some ⟨g1, 0, none⟩) ys.length ys.length])
    rw [← hY] at FVd3
    rw [← hd3] at FVd3 FBd3 FAd3 FCd3 FPd3 FOd3 FXd3 FUd3 FYd3
    rw [← hY] at hg1'
    have hYd3 : Y < d3.heap.size := Blk.lt FVd3.out
    clear FBd2 FAd2 FCd2 FPd2 FOd2 FXd2 FUd2 FYd2 hd3 hY x0 x1 hXd2 hXne
    obtain ⟨_, _, he, _, hxi⟩ := own_ints FXd3.out (by unfold maxLen; omega)
    cases he
    obtain ⟨_, _, he, _, hyi⟩ := own_ints FYd3.out (by unfold maxLen; omega)
    cases he
    refine (HI.out _ _ _ _ _ hxi hyi).mono ?_
    rintro e w6 ⟨_, rfl, ⟨x6, rfl, ho6, hl6⟩, hb6⟩
    obtain ⟨A2, cap2, rfl, _, hi6⟩ := own_ints ho6 (by unfold maxLen; omega)
    have D2 : Hid (∀ j, (Value.slice A2 vs.length cap2).ownBlock = some j → d3.heap.size ≤ j ∧ j < w6.heap.size) := fun j hj => ho6.lt j hj
    have h36 : d3.heap.size ≤ w6.heap.size := hb6.size
    have FB6 := Lib.hid (below_on FBd3.out hb6)
    have FA6 := Lib.hid (blk_b FAd3.out hb6)
    have FC6 := Lib.hid (blk_b FCd3.out hb6)
    have FP6 := Lib.hid (blk_b FPd3.out hb6)
    have FO6 := Lib.hid (own_under FOd3.out hb6)
    have FX6 := Lib.hid (own_under FXd3.out hb6)
    have FU6 := Lib.hid (blk_b FUd3.out hb6)
    have FY6 := Lib.hid (own_under FYd3.out hb6)
    have FV6 := Lib.hid (blk_b FVd3.out hb6)
    clear FBd3 FAd3 FCd3 FPd3 FOd3 FXd3 FUd3 FYd3 FVd3
    have FG6 := Lib.hid ho6
    have p0 : ∀ o, (w6.alloc o).cell? ⟨P, 0, none⟩ = some (.int .i64 m) := fun o => (FP6.out.alloc o).cell 0
    have p1 : ∀ o, (w6.alloc o).cell? ⟨P, 1, none⟩ = some (.slice A1 vs.length cap1) := fun o => (FP6.out.alloc o).cell 1
    obtain ⟨_, _, he1, _, hi1⟩ := own_ints FO6.out (by unfold maxLen; omega)
    cases he1
    have I1 := Lib.hid hi1
    have I2 := Lib.hid hi6
    clear hb6 ho6 hi6 hi1 hl6 hxi hyi
    go_wp2_with fail
    refine (eqMatrix_eq _ _ _ _ _ _ _ (ints_al I2.out _) (ints_al I1.out _)).mono ?_
    obtain ⟨Q, hQ⟩ : ∃ Q, Q = w6.heap.size := ⟨_, rfl⟩
    rintro e w7 ⟨rfl, hb7⟩
    have FB7 := Lib.hid (below_on (below_al FB6.out (Nat.le_refl _) (.cells #[.int .i64 m, .slice A2 vs.length cap2] 27)) hb7)
    have FA7 := Lib.hid (blk_b (FA6.out.alloc (.cells #[.int .i64 m, .slice A2 vs.length cap2] 27)) hb7)
    have FC7 := Lib.hid (blk_b (FC6.out.alloc (.cells #[.int .i64 m, .slice A2 vs.length cap2] 27)) hb7)
    have FP7 := Lib.hid (blk_b (FP6.out.alloc (.cells #[.int .i64 m, .slice A2 vs.length cap2] 27)) hb7)
    have FO7 := Lib.hid (own_under (FO6.out.alloc (.cells #[.int .i64 m, .slice A2 vs.length cap2] 27)) hb7)
    have FX7 := Lib.hid (own_under (FX6.out.alloc (.cells #[.int .i64 m, .slice A2 vs.length cap2] 27)) hb7)
    have FU7 := Lib.hid (blk_b (FU6.out.alloc (.cells #[.int .i64 m, .slice A2 vs.length cap2] 27)) hb7)
    have FY7 := Lib.hid (own_under (FY6.out.alloc (.cells #[.int .i64 m, .slice A2 vs.length cap2] 27)) hb7)
    have FV7 := Lib.hid (blk_b (FV6.out.alloc (.cells #[.int .i64 m, .slice A2 vs.length cap2] 27)) hb7)
    have FG7 := Lib.hid (own_under (FG6.out.alloc (.cells #[.int .i64 m, .slice A2 vs.length cap2] 27)) hb7)
    clear FB6 FA6 FC6 FP6 FO6 FX6 FU6 FY6 FV6 FG6
    have FQ7 := Lib.hid (blk_b (Blk.new w6 27 #[.int .i64 m, .slice A2 vs.length cap2]) hb7)
    rw [← hQ] at FQ7
    rw [← hQ]
    rw [← hQ] at D2 h36
    clear hQ hb7 p0 p1 I1 I2
    have keep : ∀ w', Below w7.heap.size w7 w' → (Hid (Below w7.heap.size w7 w') ∧ w'.cell? ⟨w.heap.size, 0, none⟩ = some (.int .i64 m0) ∧ w'.cell? ⟨w.heap.size, 1, none⟩ = some (.slice A zs.length cap) ∧ w'.cell? ⟨X, 0, none⟩ = some (.int .i64 m0) ∧ w'.cell? ⟨X, 1, none⟩ = some (.slice (some ⟨g0, 0, none⟩) zs.length zs.length)) := fun w' h => ⟨h, (cells_below FA7.out h).1, (cells_below FA7.out h).2, (cells_below FU7.out h).1, (cells_below FU7.out h).2⟩
    have K := Lib.hid keep
    have KX : Hid (∀ w', Below w7.heap.size w7 w' → Ints w' w'.heap.size (some ⟨g0, 0, none⟩) zs) := fun w' h => by
      obtain ⟨_, _, he, _, hi⟩ := own_ints (own_under FX7.out h) (by unfold maxLen; omega)
      cases he
      exact hi
    have hS0 := K.out w7.drew ((Below.refl _ _).drew)
    clear keep
    go_wp2_with fail
    go_region_held3 (fun w' => Hid (Below w7.heap.size w7 w') ∧ w'.cell? ⟨w.heap.size, 0, none⟩ = some (.int .i64 m0) ∧ w'.cell? ⟨w.heap.size, 1, none⟩ = some (.slice A zs.length cap) ∧ w'.cell? ⟨X, 0, none⟩ = some (.int .i64 m0) ∧ w'.cell? ⟨X, 1, none⟩ = some (.slice (some ⟨g0, 0, none⟩) zs.length zs.length)) (first | with_reducible assumption | skip)
      (first
        | (go_at_call 10; refine (toMatrix_any _ _ _ _ _ (KZ.out _ (below_on FB7.out hS0.1.out)) hsz).mono ?_; rintro e w8 ⟨_, rfl, ⟨A8, cap8, rfl, hc8, hi8⟩, hb8⟩; have hS1 := K.out _ (below_on hS0.1.out hb8))
        | (go_at_call 12; refine (eqMatrix_eq _ _ _ _ _ _ _ (KX.out _ hS1.1.out) hi8).mono ?_; rintro e w9 ⟨rfl, hb9⟩; have hS2 := K.out _ (below_on hS1.1.out hb9)))
    have hbw9 := hS2.1.out
    clear hi8 hS0 hS1 hS2 K KX
    have FB9 := Lib.hid (below_on FB7.out hbw9)
    have FA9 := Lib.hid (blk_b FA7.out hbw9)
    have FC9 := Lib.hid (blk_b FC7.out hbw9)
    have FP9 := Lib.hid (blk_b FP7.out hbw9)
    have FO9 := Lib.hid (own_under FO7.out hbw9)
    have FX9 := Lib.hid (own_under FX7.out hbw9)
    have FU9 := Lib.hid (blk_b FU7.out hbw9)
    have FY9 := Lib.hid (own_under FY7.out hbw9)
    have FV9 := Lib.hid (blk_b FV7.out hbw9)
    have FG9 := Lib.hid (own_under FG7.out hbw9)
    have FQ9 := Lib.hid (blk_b FQ7.out hbw9)
    clear FB7 FA7 FC7 FP7 FO7 FX7 FU7 FY7 FV7 FG7 FQ7
    clear hbw9
    have keep : ∀ w', Below w9.heap.size w9 w' → (Hid (Below w9.heap.size w9 w') ∧ w'.cell? ⟨w.heap.size + 1, 0, none⟩ = some (.int .i64 m0') ∧ w'.cell? ⟨w.heap.size + 1, 1, none⟩ = some (.slice A' ys.length cap') ∧ w'.cell? ⟨Y, 0, none⟩ = some (.int .i64 m0') ∧ w'.cell? ⟨Y, 1, none⟩ = some (.slice (some ⟨g1, 0, none⟩) ys.length ys.length)) := fun w' h => ⟨h, (cells_below FC9.out h).1, (cells_below FC9.out h).2, (cells_below FV9.out h).1, (cells_below FV9.out h).2⟩
    have K := Lib.hid keep
    have KX : Hid (∀ w', Below w9.heap.size w9 w' → Ints w' w'.heap.size (some ⟨g1, 0, none⟩) ys) := fun w' h => by
      obtain ⟨_, _, he, _, hi⟩ := own_ints (own_under FY9.out h) (by unfold maxLen; omega)
      cases he
      exact hi
    have hS0 := K.out w9.drew ((Below.refl _ _).drew)
    clear keep
    go_wp2_with fail
    go_region_held3 (fun w' => Hid (Below w9.heap.size w9 w') ∧ w'.cell? ⟨w.heap.size + 1, 0, none⟩ = some (.int .i64 m0') ∧ w'.cell? ⟨w.heap.size + 1, 1, none⟩ = some (.slice A' ys.length cap') ∧ w'.cell? ⟨Y, 0, none⟩ = some (.int .i64 m0') ∧ w'.cell? ⟨Y, 1, none⟩ = some (.slice (some ⟨g1, 0, none⟩) ys.length ys.length)) (first | with_reducible assumption | skip)
      (first
        | (go_at_call 10; refine (toMatrix_any _ _ _ _ _ (KY.out _ (below_on FB9.out hS0.1.out)) hsy).mono ?_; rintro e w8 ⟨_, rfl, ⟨A8, cap8, rfl, hc8, hi8⟩, hb8⟩; have hS1 := K.out _ (below_on hS0.1.out hb8))
        | (go_at_call 12; refine (eqMatrix_eq _ _ _ _ _ _ _ (KX.out _ hS1.1.out) hi8).mono ?_; rintro e w11 ⟨rfl, hb9⟩; have hS2 := K.out _ (below_on hS1.1.out hb9)))
    have hbw11 := hS2.1.out
    clear hi8 hS0 hS1 hS2 K KX
    have FB11 := Lib.hid (below_on FB9.out hbw11)
    have FA11 := Lib.hid (blk_b FA9.out hbw11)
    have FC11 := Lib.hid (blk_b FC9.out hbw11)
    have FP11 := Lib.hid (blk_b FP9.out hbw11)
    have FO11 := Lib.hid (own_under FO9.out hbw11)
    have FX11 := Lib.hid (own_under FX9.out hbw11)
    have FU11 := Lib.hid (blk_b FU9.out hbw11)
    have FY11 := Lib.hid (own_under FY9.out hbw11)
    have FV11 := Lib.hid (blk_b FV9.out hbw11)
    have FG11 := Lib.hid (own_under FG9.out hbw11)
    have FQ11 := Lib.hid (blk_b FQ9.out hbw11)
    clear FB9 FA9 FC9 FP9 FO9 FX9 FU9 FY9 FV9 FG9 FQ9
    clear hbw11
    obtain ⟨x0, x1⟩ := two_cells FU11.out
    go_wp2_with fail
    refine (markMatrix_some _ _ _ _ _ _ _ _ (by omega) (by omega) (by omega) FX11.out).mono ?_
    rintro e v1 ⟨rfl, hgv⟩
    have hrow : ∀ j, (Value.slice (some ⟨g0, 0, none⟩) zs.length zs.length).ownBlock = some j → j = g0 := fun j hj => by simp [Value.ownBlock] at hj; exact hj.symm
    have hQ11 := Blk.lt FQ11.out
    have hrow1 : ∀ j, (Value.slice (some ⟨g1, 0, none⟩) ys.length ys.length).ownBlock = some j → j = g1 := fun j hj => by simp [Value.ownBlock] at hj; exact hj.symm
    have FBv1 := Lib.hid (FB11.out.grown hgv FB11.out.size (fun j hj => by have := hrow j hj; omega))
    have FAv1 := Lib.hid (blk_g FA11.out hgv (fun he => by have := hrow _ he.symm; omega))
    have FCv1 := Lib.hid (blk_g FC11.out hgv (fun he => by have := hrow _ he.symm; omega))
    have FPv1 := Lib.hid (blk_g FP11.out hgv (fun he => by have := hrow _ he.symm; omega))
    have FOv1 := Lib.hid (FO11.out.kept hgv (by
      rcases h0 : (Value.slice A1 vs.length cap1).ownBlock with _ | j
      · exact Or.inl rfl
      · right
        intro he
        have h1 := D1.out j h0
        have h2 := hrow j he.symm
        omega))
    have FYv1 := Lib.hid (FY11.out.kept hgv (by
      rcases h0 : (Value.slice (some ⟨g1, 0, none⟩) ys.length ys.length).ownBlock with _ | j
      · exact Or.inl rfl
      · right
        intro he
        have h1 := hrow1 j h0
        have h2 := hrow j he.symm
        omega))
    have FVv1 := Lib.hid (blk_g FV11.out hgv (fun he => by have := hrow _ he.symm; omega))
    have FGv1 := Lib.hid (FG11.out.kept hgv (by
      rcases h0 : (Value.slice A2 vs.length cap2).ownBlock with _ | j
      · exact Or.inl rfl
      · right
        intro he
        have h1 := D2.out j h0
        have h2 := hrow j he.symm
        omega))
    have FQv1 := Lib.hid (blk_g FQ11.out hgv (fun he => by have := hrow _ he.symm; omega))
    clear FB11 FA11 FC11 FP11 FO11 FX11 FY11 FV11 FG11 FQ11 FU11 hgv hrow x0 x1
    obtain ⟨x0, x1⟩ := two_cells FVv1.out
    go_wp2_with fail
    refine (markMatrix_some _ _ _ _ _ _ _ _ (by omega) (by omega) (by omega) FYv1.out).mono ?_
    rintro e v2 ⟨rfl, hgv⟩
    have hrow := hrow1
    have FBv2 := Lib.hid (FBv1.out.grown hgv FBv1.out.size (fun j hj => by have := hrow j hj; omega))
    have FAv2 := Lib.hid (blk_g FAv1.out hgv (fun he => by have := hrow _ he.symm; omega))
    have FCv2 := Lib.hid (blk_g FCv1.out hgv (fun he => by have := hrow _ he.symm; omega))
    have FPv2 := Lib.hid (blk_g FPv1.out hgv (fun he => by have := hrow _ he.symm; omega))
    have FOv2 := Lib.hid (FOv1.out.kept hgv (by
      rcases h0 : (Value.slice A1 vs.length cap1).ownBlock with _ | j
      · exact Or.inl rfl
      · right
        intro he
        have h1 := D1.out j h0
        have h2 := hrow j he.symm
        omega))
    have FGv2 := Lib.hid (FGv1.out.kept hgv (by
      rcases h0 : (Value.slice A2 vs.length cap2).ownBlock with _ | j
      · exact Or.inl rfl
      · right
        intro he
        have h1 := D2.out j h0
        have h2 := hrow j he.symm
        omega))
    have FQv2 := Lib.hid (blk_g FQv1.out hgv (fun he => by have := hrow _ he.symm; omega))
    clear FBv1 FAv1 FCv1 FPv1 FOv1 FYv1 FGv1 FQv1 FVv1 hgv hrow hrow1 x0 x1
    have DIS : Hid (∀ j, (Value.slice A2 vs.length cap2).ownBlock = some j → d3.heap.size ≤ j ∧ j < Q ∧ w.heap.size ≤ j) := fun j hj => ⟨(D2.out j hj).1, (D2.out j hj).2, by have := (D2.out j hj).1; omega⟩
    have DIS1 : Hid (∀ j, (Value.slice A1 vs.length cap1).ownBlock = some j → j < d3.heap.size) := fun j hj => by have := D1.out j hj; omega
    have HPQ : Hid (P < d3.heap.size) := by show _ < _; omega
    have O1x := FOv2
    have O2x := FGv2
    have PX := FPv2
    have QX := FQv2
    have AX := FAv2
    have CX := FCv2
    have BX := FBv2
    obtain ⟨_, _, he1, _, hi1⟩ := own_ints O1x.out (by unfold maxLen; omega)
    cases he1
    obtain ⟨_, _, he2, _, hi2⟩ := own_ints O2x.out (by unfold maxLen; omega)
    cases he2
    have I1x := Lib.hid hi1
    have I2x := Lib.hid hi2
    obtain ⟨y0, y1⟩ := two_cells PX.out
    obtain ⟨z0, z1⟩ := two_cells QX.out
    clear hi1 hi2 FBv2 FAv2 FCv2 FPv2 FOv2 FGv2 FQv2
    go_wp2_with fail
    refine (eqMatrix_eq _ _ _ _ _ _ _ I2x.out I1x.out).mono ?_
    rintro e t1 ⟨rfl, hbt1⟩
    have BT1 := Lib.hid (below_on BX.out hbt1)
    have OA1 := Lib.hid (own_under O1x.out hbt1)
    have OB1 := Lib.hid (own_under O2x.out hbt1)
    have PT1 := Lib.hid (PX.out.below hbt1 (Blk.lt PX.out))
    have QT1 := Lib.hid (QX.out.below hbt1 (Blk.lt QX.out))
    have CT1 := Lib.hid (CX.out.below hbt1 (Blk.lt CX.out))
    have AT1 := Lib.hid (AX.out.below hbt1 (Blk.lt AX.out))
    clear hbt1
    obtain ⟨y0, y1⟩ := two_cells PT1.out
    obtain ⟨z0, z1⟩ := two_cells QT1.out
    go_wp2_with fail
    refine (markMatrix_own _ _ _ _ _ _ _ hlv OB1.out).mono ?_
    rintro e t2 ⟨rfl, hot2, hgt2⟩
    have hdis : (Value.slice A1 vs.length cap1).ownBlock = none ∨ (Value.slice A1 vs.length cap1).ownBlock ≠ (Value.slice A2 vs.length cap2).ownBlock := by
      rcases h0 : (Value.slice A1 vs.length cap1).ownBlock with _ | j
      · exact Or.inl rfl
      · right
        intro he
        have h1 := DIS1.out j h0
        have h2 := (DIS.out j he.symm).1
        omega
    have OA2 := Lib.hid (OA1.out.kept hgt2 hdis)
    have OB2 := Lib.hid hot2
    have PT2 : Hid (Blk t2 P 27 #[.int .i64 m, .slice A1 vs.length cap1]) := (hgt2.block P (Blk.lt PT1.out) (fun he => by have := (DIS.out P he.symm).1; have := HPQ.out; omega)).trans PT1.out
    have QT2 : Hid (Blk t2 Q 27 #[.int .i64 m, .slice A2 vs.length cap2]) := (hgt2.block Q (Blk.lt QT1.out) (fun he => by have := (DIS.out Q he.symm).2.1; omega)).trans QT1.out
    have AT2 : Hid (Blk t2 w.heap.size 24 #[.int .i64 m0, .slice A zs.length cap]) := (hgt2.block _ (Blk.lt AT1.out) (fun he => by have := (DIS.out _ he.symm).1; have := HPQ.out; omega)).trans AT1.out
    have CT2 : Hid (Blk t2 (w.heap.size + 1) 24 #[.int .i64 m0', .slice A' ys.length cap']) := (hgt2.block _ (Blk.lt CT1.out) (fun he => by have := (DIS.out _ he.symm).1; have := HPQ.out; omega)).trans CT1.out
    have BT2 := Lib.hid (BT1.out.grown hgt2 BT1.out.size (fun j hj => (DIS.out j hj).2.2))
    clear hdis hot2 hgt2
    clear y0 y1 z0 z1
    obtain ⟨y0, y1⟩ := two_cells PT2.out
    obtain ⟨z0, z1⟩ := two_cells QT2.out
    go_wp2_with fail
    refine (heldMatrix_own _ _ _ _ _ _ hlv OB2.out).mono ?_
    rintro e t3 ⟨rfl, hbt3⟩
    have BT3 := Lib.hid (below_on BT2.out hbt3)
    have OA3 := Lib.hid (own_under OA2.out hbt3)
    have OB3 := Lib.hid (own_under OB2.out hbt3)
    have PT3 := Lib.hid (PT2.out.below hbt3 (Blk.lt PT2.out))
    have QT3 := Lib.hid (QT2.out.below hbt3 (Blk.lt QT2.out))
    have CT3 := Lib.hid (CT2.out.below hbt3 (Blk.lt CT2.out))
    have CC3 := two_cells CT3.out
    obtain ⟨Cu0, Cu1⟩ := CC3
    have AT3 := Lib.hid (AT2.out.below hbt3 (Blk.lt AT2.out))
    have AC3 := two_cells AT3.out
    obtain ⟨Au0, Au1⟩ := AC3
    clear hbt3
    clear y0 y1 z0 z1
    obtain ⟨y0, y1⟩ := two_cells PT3.out
    obtain ⟨z0, z1⟩ := two_cells QT3.out

    clear Au0 Au1 Cu0 Cu1 y0 y1 z0 z1
    have A1o := Lib.hid OA3.out
    have keep : ∀ w', Below t3.heap.size t3 w' → (Hid (Below t3.heap.size t3 (w')) ∧ (w').cell? ⟨w.heap.size, 0, none⟩ = some (.int .i64 m0) ∧ (w').cell? ⟨w.heap.size, 1, none⟩ = some (.slice A zs.length cap) ∧ (w').cell? ⟨w.heap.size + 1, 0, none⟩ = some (.int .i64 m0') ∧ (w').cell? ⟨w.heap.size + 1, 1, none⟩ = some (.slice A' ys.length cap')) :=
      fun w' h => ⟨h, (cells_below AT3.out h).1, (cells_below AT3.out h).2, (cells_below CT3.out h).1, (cells_below CT3.out h).2⟩
    have KZS : Hid (∀ w', (Hid (Below t3.heap.size t3 (w')) ∧ (w').cell? ⟨w.heap.size, 0, none⟩ = some (.int .i64 m0) ∧ (w').cell? ⟨w.heap.size, 1, none⟩ = some (.slice A zs.length cap) ∧ (w').cell? ⟨w.heap.size + 1, 0, none⟩ = some (.int .i64 m0') ∧ (w').cell? ⟨w.heap.size + 1, 1, none⟩ = some (.slice A' ys.length cap')) → Ints w' w'.heap.size A zs) := fun w' h => KZ.out _ (below_on BT3.out h.1.out)
    have KYS : Hid (∀ w', (Hid (Below t3.heap.size t3 (w')) ∧ (w').cell? ⟨w.heap.size, 0, none⟩ = some (.int .i64 m0) ∧ (w').cell? ⟨w.heap.size, 1, none⟩ = some (.slice A zs.length cap) ∧ (w').cell? ⟨w.heap.size + 1, 0, none⟩ = some (.int .i64 m0') ∧ (w').cell? ⟨w.heap.size + 1, 1, none⟩ = some (.slice A' ys.length cap')) → Ints w' w'.heap.size A' ys) := fun w' h => KY.out _ (below_on BT3.out h.1.out)
    have KB : Hid (∀ w' w'', (Hid (Below t3.heap.size t3 (w')) ∧ (w').cell? ⟨w.heap.size, 0, none⟩ = some (.int .i64 m0) ∧ (w').cell? ⟨w.heap.size, 1, none⟩ = some (.slice A zs.length cap) ∧ (w').cell? ⟨w.heap.size + 1, 0, none⟩ = some (.int .i64 m0') ∧ (w').cell? ⟨w.heap.size + 1, 1, none⟩ = some (.slice A' ys.length cap')) → Below w'.heap.size w' w'' → (Hid (Below t3.heap.size t3 (w'')) ∧ (w'').cell? ⟨w.heap.size, 0, none⟩ = some (.int .i64 m0) ∧ (w'').cell? ⟨w.heap.size, 1, none⟩ = some (.slice A zs.length cap) ∧ (w'').cell? ⟨w.heap.size + 1, 0, none⟩ = some (.int .i64 m0') ∧ (w'').cell? ⟨w.heap.size + 1, 1, none⟩ = some (.slice A' ys.length cap'))) := fun w' w'' h hb => keep _ (below_on h.1.out hb)
    have KA : Hid (∀ w' o, (Hid (Below t3.heap.size t3 (w')) ∧ (w').cell? ⟨w.heap.size, 0, none⟩ = some (.int .i64 m0) ∧ (w').cell? ⟨w.heap.size, 1, none⟩ = some (.slice A zs.length cap) ∧ (w').cell? ⟨w.heap.size + 1, 0, none⟩ = some (.int .i64 m0') ∧ (w').cell? ⟨w.heap.size + 1, 1, none⟩ = some (.slice A' ys.length cap')) → (Hid (Below t3.heap.size t3 (w'.alloc o)) ∧ (w'.alloc o).cell? ⟨w.heap.size, 0, none⟩ = some (.int .i64 m0) ∧ (w'.alloc o).cell? ⟨w.heap.size, 1, none⟩ = some (.slice A zs.length cap) ∧ (w'.alloc o).cell? ⟨w.heap.size + 1, 0, none⟩ = some (.int .i64 m0') ∧ (w'.alloc o).cell? ⟨w.heap.size + 1, 1, none⟩ = some (.slice A' ys.length cap'))) := fun w' o h => keep _ (below_al h.1.out (Nat.le_refl _) o)
    have KC : Hid (∀ w' b i v, t3.heap.size ≤ b → (Hid (Below t3.heap.size t3 (w')) ∧ (w').cell? ⟨w.heap.size, 0, none⟩ = some (.int .i64 m0) ∧ (w').cell? ⟨w.heap.size, 1, none⟩ = some (.slice A zs.length cap) ∧ (w').cell? ⟨w.heap.size + 1, 0, none⟩ = some (.int .i64 m0') ∧ (w').cell? ⟨w.heap.size + 1, 1, none⟩ = some (.slice A' ys.length cap')) → (Hid (Below t3.heap.size t3 (w'.setCell ⟨b, i, none⟩ v)) ∧ (w'.setCell ⟨b, i, none⟩ v).cell? ⟨w.heap.size, 0, none⟩ = some (.int .i64 m0) ∧ (w'.setCell ⟨b, i, none⟩ v).cell? ⟨w.heap.size, 1, none⟩ = some (.slice A zs.length cap) ∧ (w'.setCell ⟨b, i, none⟩ v).cell? ⟨w.heap.size + 1, 0, none⟩ = some (.int .i64 m0') ∧ (w'.setCell ⟨b, i, none⟩ v).cell? ⟨w.heap.size + 1, 1, none⟩ = some (.slice A' ys.length cap'))) := fun w' b i v hb h => keep _ (h.1.out.setCell (p := ⟨b, i, none⟩) hb v)
    have KD : Hid (∀ o, (Hid (Below t3.heap.size t3 ((t3.alloc o).drew)) ∧ ((t3.alloc o).drew).cell? ⟨w.heap.size, 0, none⟩ = some (.int .i64 m0) ∧ ((t3.alloc o).drew).cell? ⟨w.heap.size, 1, none⟩ = some (.slice A zs.length cap) ∧ ((t3.alloc o).drew).cell? ⟨w.heap.size + 1, 0, none⟩ = some (.int .i64 m0') ∧ ((t3.alloc o).drew).cell? ⟨w.heap.size + 1, 1, none⟩ = some (.slice A' ys.length cap'))) := fun o => keep _ (below_al (Below.refl _ _) (Nat.le_refl _) o).drew
    have hS0 := keep t3.drew ((Below.refl _ _).drew)
    have hNw : w.heap.size ≤ t3.heap.size := BT3.out.size
    clear keep
    go_upto_region 31 with fail
    go_cut [15, 16] (fun s1 s2 wx => ∃ (H : Nat) (A5 : Option Addr) (cap5 : Nat), s1 = .pointer (some ⟨H, 0, none⟩) ∧ s2 = .bool ok ∧ vs.length ≤ 1048577 ∧ Hid (VarAt t3 wx w.heap.size H 27 m (.slice A5 vs.length cap5) vs))
    case first =>
      go_region_held3 (fun w' => Hid (Below t3.heap.size t3 (w')) ∧ (w').cell? ⟨w.heap.size, 0, none⟩ = some (.int .i64 m0) ∧ (w').cell? ⟨w.heap.size, 1, none⟩ = some (.slice A zs.length cap) ∧ (w').cell? ⟨w.heap.size + 1, 0, none⟩ = some (.int .i64 m0') ∧ (w').cell? ⟨w.heap.size + 1, 1, none⟩ = some (.slice A' ys.length cap')) (first | with_reducible assumption | with_reducible exact KD.out _ | (refine KA.out _ _ ?_; with_reducible assumption) | (refine KC.out _ _ _ _ ?_ ?_; (first | omega | (simp; omega) | (simp at *; omega)); with_reducible assumption) | (refine KC.out _ _ _ _ ?_ (KC.out _ _ _ _ ?_ ?_); (first | omega | (simp; omega) | (simp at *; omega)); (first | omega | (simp; omega) | (simp at *; omega)); with_reducible assumption) | skip)
        (first
          | (go_at_call_of 10 (Value.slice A zs.length cap); refine (toMatrix_any _ _ _ _ _ (KZS.out _ (by with_reducible assumption)) hsz).mono ?_; rintro e w3 ⟨_, rfl, ⟨A3, cap3, rfl, hc3, hi3⟩, hb3⟩; have hS1 := KB.out _ _ (by with_reducible assumption) hb3; have z3 := hS1.1.out.size; have y3 := hb3.size; (try simp at y3))
          | (go_at_call_of 10 (Value.slice A' ys.length cap'); refine (toMatrix_any _ _ _ _ _ (KYS.out _ (by with_reducible assumption)) hsy).mono ?_; rintro e w4 ⟨_, rfl, ⟨A4, cap4, rfl, hc4, hi4⟩, hb4⟩; have hS2 := KB.out _ _ (by with_reducible assumption) hb4; (first | have hi3' := (hi3.below hb4).more hb4.size | have hi3' := ((ints_al hi3 _).below hb4).more hb4.size); have z4 := hS2.1.out.size; have y4 := hb4.size; (try simp at y4))
          | (go_at_call 18; (first | refine (HI.out _ _ _ _ _ hi3' hi4).mono ?_ | refine (HI.out _ _ _ _ _ (ints_al hi3' _) (ints_al hi4 _)).mono ?_); rintro e w5 ⟨_, rfl, ⟨x3, rfl, ho3, hl3⟩, hb5⟩; obtain ⟨A5, cap5, rfl, _, hi3x⟩ := own_ints ho3 (by unfold maxLen; omega); have hS3 := KB.out _ _ (by with_reducible assumption) hb5; have z5 := hS3.1.out.size; have y5 := hb5.size; (try simp at y5); (first | (have QB : Blk w5 t3.heap.size 27 #[.int .i64 0, .slice none 0 0] := blk_b (blk_b (blk_b (show Blk (t3.alloc (.cells #[.int .i64 0, .slice none 0 0] 27)).drew t3.heap.size 27 #[.int .i64 0, .slice none 0 0] from Blk.new t3 27 #[.int .i64 0, .slice none 0 0]) hb3) hb4) hb5; obtain ⟨q0, q1⟩ := two_cells QB; obtain ⟨f0, f1⟩ := two_frozen QB) | (have QB : Blk w5 w3.heap.size 27 #[.int .i64 0, .slice none 0 0] := blk_b (blk_b (Blk.new w3 27 #[.int .i64 0, .slice none 0 0]) hb4) hb5; obtain ⟨q0, q1⟩ := two_cells QB; obtain ⟨f0, f1⟩ := two_frozen QB) | (have QB : Blk w5 w4.heap.size 27 #[.int .i64 0, .slice none 0 0] := blk_b (Blk.new w4 27 #[.int .i64 0, .slice none 0 0]) hb5; obtain ⟨q0, q1⟩ := two_cells QB; obtain ⟨f0, f1⟩ := two_frozen QB) | skip)))
      all_goals (go_wp2_with fail; go_meet)
      · exact ⟨_, A5, cap5, rfl, rfl, hl3, Lib.hid (var_new hS3.1.out rfl ho3 (by omega))⟩
      all_goals exact ⟨_, A5, cap5, rfl, rfl, hl3, Lib.hid (var_set hS3.1.out (by omega) QB ho3 (fun j hj => by have hh := (ho3.lt j hj).1; (try simp at hh); omega) (by (try simp); omega))⟩
    case rest =>
      obtain ⟨H, A5, cap5, rfl, rfl, hlv, hV⟩ := hcut
      obtain ⟨hVb, hVp, hVk, hVo, hVj⟩ := hV.out
      clear hV hS0 hNw KZS KYS KB KA KC KD
      have BT5 := Lib.hid (below_on BT3.out hVb)
      have OA5 := own_under OA3.out hVb
      have OB5 := Lib.hid (own_under OB3.out hVb)
      have PT5 := Lib.hid (blk_b PT3.out hVb)
      have QT5 := Lib.hid (blk_b QT3.out hVb)
      obtain ⟨_, _, he1, _, hi51⟩ := own_ints OA5 (by unfold maxLen; omega)
      cases he1
      obtain ⟨_, _, he2, _, hi5⟩ := own_ints hVo (by unfold maxLen; omega)
      cases he2
      have I5 := Lib.hid hi5
      have I51 := Lib.hid hi51
      obtain ⟨h0, h1⟩ := two_cells hVk
      obtain ⟨y0, y1⟩ := two_cells PT5.out
      obtain ⟨z0, z1⟩ := two_cells QT5.out
      clear hi5 hi51 OA5 hVb hVp hVk hVo hVj
      go_wp2_with fail
      refine (eqMatrix_eq _ _ _ _ _ _ _ I5.out I51.out).mono ?_
      rintro e t6 ⟨rfl, hb6⟩
      have BT6 := Lib.hid (below_on BT5.out hb6)
      have OB6 := Lib.hid (own_under OB5.out hb6)
      have QT6 := Lib.hid (blk_b QT5.out hb6)
      clear hb6 y0 y1 z0 z1 h0 h1
      obtain ⟨z6, z7⟩ := two_cells QT6.out
      go_wp2_with fail
      refine (heldMatrix_own _ _ _ _ _ _ hlv OB6.out).mono ?_
      rintro e t7 ⟨rfl, hb7⟩
      go_wp2_with fail
      go_ret
      exact ⟨rfl, below_on BT6.out hb7⟩
end Go.Proofs.Yteanpmeelphhbaa
