/- Whether a square of grades is its own square; the way from each to itself again and again; what becomes of a square that is repeated: each the plain function of its numbers; nothing that was there changes. -/
import Derived.Test.YthcfdmphephfpaaGreatGKey
namespace Go.Proofs.YthcfdmphephfpaaGreat
open Go.RowKit
set_option maxHeartbeats 2000000
set_option maxRecDepth 100000
set_option linter.unusedVariables false

theorem idem_is (n p g : Nat) (zs : List Int) (r : Bool) (w : World) (n1 : 1 ≤ n) (n2 : n ≤ 4) (hp : Hid (p = n * n)) (hz : Hid (zs.length = p)) (p1 : p ≤ 16) (hzb : Hid (∀ q, q < p → 0 ≤ zs.getD q 0 ∧ zs.getD q 0 ≤ 3)) (hq : GSq w g zs) (hr : decide (gmulL n zs zs = zs) = r) :
    Calls Tryz.prog 73 #[gsqV n (.slice (some ⟨g, 0, none⟩) p p)] w fun e w' => e = .returned (.bool r) ∧ Below w.heap.size w w' := by
  have HR := Lib.hid hr
  have hgw := Blk.lt hq
  have HML : Hid ((gmulL n zs zs).length = p) := by show _ = _; unfold gmulL; rw [ofF_len, hp.out]
  clear hr
  unfold gsqV
  go_enter Tryz.func73, Tryz.ntmps73
  go_wp2_with fail
  obtain ⟨w1, hw1⟩ : ∃ w1, w1 = (w.alloc (.cells (gsqC n (.slice (some ⟨g, 0, none⟩) p p)) 101)) := ⟨_, rfl⟩
  have S1 : Blk w1 w.heap.size 101 (gsqC n (.slice (some ⟨g, 0, none⟩) p p)) := by rw [hw1]; exact Blk.new _ _ _
  have Q1 : Hid (GSq w1 g zs) := by rw [hw1]; exact Blk.alloc hq _
  have B1 : Hid (Below w.heap.size w w1) := by rw [hw1]; exact below_a1 _ _
  have hgw1 : g < w1.heap.size := by have := B1.out.size; omega
  unfold gsqC at hw1
  rw [← hw1]
  have keep : ∀ w', Below w1.heap.size w1 w' → (Hid (Below w1.heap.size w1 w') ∧ w'.cell? ⟨w.heap.size, 0, none⟩ = some (.func (.func 89) #[] #[]) ∧ w'.cell? ⟨w.heap.size, 1, none⟩ = some (.int .i64 0) ∧ w'.cell? ⟨w.heap.size, 2, none⟩ = some (.func (.func 63) #[] #[]) ∧ w'.cell? ⟨w.heap.size, 3, none⟩ = some (.int .i64 3) ∧ w'.cell? ⟨w.heap.size, 4, none⟩ = some (.int .i64 n) ∧ w'.cell? ⟨w.heap.size, 5, none⟩ = some (.slice (some ⟨g, 0, none⟩) p p)) := fun w' h => by
    obtain ⟨a0, a1, a2, a3, a4, a5⟩ := six_cells (show Blk w' w.heap.size 101 #[_, _, _, _, _, _] from S1.below h (Blk.lt S1))
    exact ⟨h, a0, a1, a2, a3, a4, a5⟩
  have K := Lib.hid keep
  have hS0 := K.out w1.drew (Below.refl _ _).drew
  clear keep hw1 S1 hq
  refine wp_region_Z (S := fun w' => Hid (Below w1.heap.size w1 w') ∧ w'.cell? ⟨w.heap.size, 0, none⟩ = some (.func (.func 89) #[] #[]) ∧ w'.cell? ⟨w.heap.size, 1, none⟩ = some (.int .i64 0) ∧ w'.cell? ⟨w.heap.size, 2, none⟩ = some (.func (.func 63) #[] #[]) ∧ w'.cell? ⟨w.heap.size, 3, none⟩ = some (.int .i64 3) ∧ w'.cell? ⟨w.heap.size, 4, none⟩ = some (.int .i64 n) ∧ w'.cell? ⟨w.heap.size, 5, none⟩ = some (.slice (some ⟨g, 0, none⟩) p p)) (by kernel_rfl) hS0 (fun hS => ?_)
  clear hS0

  refine wpAnyZ_take (i := 0) (v := ?va0) rfl (by kernel_rfl) (by kernel_rfl) (by kernel_rfl) (by kernel_rfl) (fun _ _ _ h => h) (Or.inl ⟨by rfl, ?ya0⟩) (by with_reducible assumption) ?ra0
  case ya0 => (intro w hSw; (try dsimp only at hSw); go_simp; (try with_reducible rfl))
  simp only [Act.put, List.setIfInBounds_toArray]
  refine wpAnyZ_take (i := 1) (v := ?va1) rfl (by kernel_rfl) (by kernel_rfl) (by kernel_rfl) (by kernel_rfl) (fun _ _ _ h => h) (Or.inl ⟨by rfl, ?ya1⟩) (by with_reducible assumption) ?ra1
  case ya1 => (intro w hSw; (try dsimp only at hSw); go_simp; (try with_reducible rfl))
  simp only [Act.put]
  refine wpAnyZ_take (i := 4) (v := ?va4) rfl (by kernel_rfl) (by kernel_rfl) (by kernel_rfl) (by kernel_rfl) (fun _ _ _ h => h) (Or.inl ⟨by rfl, ?ya4⟩) (by with_reducible assumption) ?ra4
  case ya4 => (intro w hSw; (try dsimp only at hSw); go_simp; (try with_reducible rfl))
  simp only [Act.put]
  (try simp only [Act.put])
  refine wpAnyZ_step (i := 2) (by kernel_rfl) rfl ?_
  intro K1 hK1
  go_simp
  have hq1 := Nm.below Q1.out hS.1.out
  refine (g_times_any n p g g zs zs _ n1 n2 hp hz hz p1 hzb hzb hq1 hq1).mono ?_
  rintro e w3 ⟨g3, rfl, hb3, hg3, hq3⟩
  have hS3 := K.out _ (below_on hS.1.out hb3)
  refine hK1.out _ _ hS3 (fun hS1 => ?_)
  clear hK1 hS hS3 hq1
  (try simp only [Act.put])
  refine wpAnyZ_step (i := 3) (by kernel_rfl) rfl ?_
  intro K2 hK2
  go_simp
  refine (keyOf_is n p g3 _ _ p1 HML hq3).mono ?_
  rintro e w4 ⟨rfl, hb4⟩
  have hS4 := K.out _ (below_on hS1.1.out hb4)
  refine hK2.out _ _ hS4 (fun hS2 => ?_)
  clear hK2 hS1 hS4
  (try simp only [Act.put])
  refine wpAnyZ_step (i := 5) (by kernel_rfl) rfl ?_
  intro K3 hK3
  go_simp
  refine (keyOf_is n p g _ _ p1 hz (Nm.below Q1.out hS2.1.out)).mono ?_
  rintro e w5 ⟨rfl, hb5⟩
  have hS5 := K.out _ (below_on hS2.1.out hb5)
  refine hK3.out _ _ hS5 (fun hS3 => ?_)
  clear hK3 hS2 hS5
  have HE : Hid (decide (keyL (gmulL n zs zs) = keyL zs) = r) := by
    show _ = _
    rw [← HR.out]
    by_cases h : gmulL n zs zs = zs
    · rw [h]; simp
    · rw [decide_eq_false h, decide_eq_false (fun h' => h ((keyL_inj (by rw [HML.out, hz.out])).1 h'))]
  have hk1 : (keyL (gmulL n zs zs)).length = 16 := keyL_len (by rw [HML.out]; exact p1)
  have hk2 : (keyL zs).length = 16 := keyL_len (by rw [hz.out]; exact p1)
  have HK1 := Lib.hid hk1
  have HK2 := Lib.hid hk2
  clear hk1 hk2
  (try simp only [Act.put])
  have HB := Lib.hid (below_on B1.out hS3.1.out)
  refine wpAnyZ_take (i := 6) (v := ?vd6) rfl (by kernel_rfl) (by kernel_rfl) (by kernel_rfl) (by kernel_rfl) (fun _ _ _ h => h) (Or.inl ⟨by rfl, ?yd6⟩) (by with_reducible assumption) ?rd6
  case yd6 => (intro w hSw; (try dsimp only at hSw); go_simp; rw [eq_keyC (gmulL n zs zs) zs r w HK1.out HK2.out HE.out]; rfl)
  simp only [Act.put]
  (try simp only [Act.put])
  refine wpAnyZ_last (i := 7) (by kernel_rfl) rfl (by kernel_rfl) ?_
  intro K4 hK4
  go_simp
  refine hK4.out _ _ ?_
  clear hK4 hS3
  go_wp2_with fail
  go_ret
  exact ⟨rfl, HB.out⟩

theorem repeated_is (z v : Int) (w : World) (hv : rep z = v) :
    Calls Tryz.prog 97 #[.int .i64 z] w fun e w' => e = .returned (.int .i64 v) ∧ w = w' := by
  by_cases h : z = 1
  · subst h
    have hv' : v = 2 := by rw [← hv]; rfl
    subst hv'
    clear hv
    go_enter Tryz.func97, Tryz.ntmps97
    go_wp2
    go_ret
    exact ⟨rfl, rfl⟩
  · have hv' : v = z := by rw [← hv]; unfold rep; rw [if_neg h]
    subst hv'
    have hb : (v == 1) = false := by rw [beq_eq_false_iff_ne]; exact h
    clear hv h
    go_enter Tryz.func97, Tryz.ntmps97
    go_wp2
    go_ret
    exact ⟨rfl, rfl⟩

theorem loopL_at {n q : Nat} (zs : List Int) (hq : q < n * n) : (loopL n zs).getD q 0 = if q / n = q % n then rep (zs.getD q 0) else 3 := by
  unfold loopL
  rw [ofF_getD _ hq]
  unfold loopF cel
  by_cases e : q / n = q % n
  · have e2 : q / n * n + q / n = q := by
      have h := Nat.div_add_mod q n
      rw [← e, Nat.mul_comm n] at h
      exact h
    rw [if_pos e, if_pos e, e2]
  · rw [if_neg e, if_neg e]
theorem loops_any (n p g : Nat) (zs : List Int) (w : World) (n1 : 1 ≤ n) (n2 : n ≤ 4) (hp : Hid (p = n * n)) (hz : Hid (zs.length = p)) (p1 : p ≤ 16) (hq : GSq w g zs) :
    Calls Tryz.prog 87 #[gsqV n (.slice (some ⟨g, 0, none⟩) p p)] w fun e w' => ∃ g', e = .returned (gsqV n (.slice (some ⟨g', 0, none⟩) p p)) ∧ Below w.heap.size w w' ∧ w.heap.size ≤ g' ∧ GSq w' g' (loopL n zs) := by
  unfold gsqV
  go_enter Tryz.func87, Tryz.ntmps87
  go_wp2_with fail
  refine (g_unitSquare_any n p _ n1 n2 hp p1).mono ?_
  rintro e w1 ⟨h, rfl, hb1, hg1, hsq⟩
  unfold gsqV
  have sA : Blk w1 w.heap.size 101 (gsqC n (.slice (some ⟨g, 0, none⟩) p p)) := ((Blk.new w _ _).alloc _).below hb1 (by simp; omega)
  have rA : Blk w1 (w.heap.size + 1) 101 #[.nilFunc, .int .i64 0, .nilFunc, .int .i64 0, .int .i64 0, .slice none 0 0] := (blk_new (by simp)).below hb1 (by simp)
  have hgr : w.heap.size + 1 < h := by simp at hg1; omega
  have hb0 := below_on (below_a2 w _ _) hb1
  have hgw := Blk.lt hq
  have qA := Nm.below hq hb0
  have hc4 : ∀ o, (w1.alloc o).cell? ⟨w.heap.size, 4, none⟩ = some (.int .i64 n) := fun o => (sA.alloc o).cell 4
  clear hb1 hg1
  go_wp2_with fail
  obtain ⟨w2, hw2⟩ : ∃ w2, w2 = w1.alloc (.cells (gsqC n (.slice (some ⟨h, 0, none⟩) p p)) 101) := ⟨_, rfl⟩
  have v2 : Blk w2 w1.heap.size 101 (gsqC n (.slice (some ⟨h, 0, none⟩) p p)) := by rw [hw2]; exact Blk.new _ _ _
  have r2 : Blk w2 (w.heap.size + 1) 101 #[.nilFunc, .int .i64 0, .nilFunc, .int .i64 0, .int .i64 0, .slice none 0 0] := by rw [hw2]; exact rA.alloc _
  have s2 : Blk w2 w.heap.size 101 (gsqC n (.slice (some ⟨g, 0, none⟩) p p)) := by rw [hw2]; exact sA.alloc _
  have q2 : GSq w2 h (gunitL n) := by rw [hw2]; exact Blk.alloc hsq _
  have z2 : GSq w2 g zs := by rw [hw2]; exact Blk.alloc qA _
  have b2 : Below w.heap.size w w2 := by rw [hw2]; exact hb0.alloc hb0.size _
  have hgs : ¬ w1.heap.size = h := by have := Blk.lt hsq; omega
  unfold gsqC at hw2
  rw [← hw2]
  obtain ⟨T, hT⟩ : ∃ T, T = w1.heap.size := ⟨_, rfl⟩
  rw [← hT] at v2 hgs
  rw [← hT]
  have V2 := Lib.hid v2
  have R2 := Lib.hid r2
  have S2 := Lib.hid s2
  have Q2 := Lib.hid q2
  have Z2 := Lib.hid z2
  have B2 := Lib.hid b2
  have HL : Hid ((loopL n zs).length = p) := by show _ = _; unfold loopL; rw [ofF_len, hp.out]
  have HU : Hid ((gunitL n).length = p) := by show _ = _; unfold gunitL; rw [ofF_len, hp.out]
  clear hw2 hT v2 r2 s2 q2 z2 b2 sA rA hsq hb0 qA hq hc4
  go_loopg [12] n (fun gh i wr => ∃ (k : Nat) (cs : List Int), k ≤ n ∧ gh = n - k ∧ i = .int .i64 k ∧ Hid (cs.length = p) ∧ Hid (∀ q, q < p → cs.getD q 0 = if q / n = q % n ∧ q / n < k then rep (zs.getD q 0) else (gunitL n).getD q 0) ∧ Hid (GSq wr h cs) ∧ Hid (w2.grownBy wr (some h)))
  case atStart => exact ⟨0, gunitL n, Nat.zero_le _, rfl, rfl, HU, (fun q hq => by rw [if_neg (by omega)]), Q2, World.grownBy.refl _ _⟩
  case round =>
    obtain ⟨k, cs, hk, rfl, rfl, hcl, hpre, hsq, hg2⟩ := hrel
    by_cases hlt : k < n
    · obtain ⟨P, hP⟩ : ∃ P, P = k * n := ⟨_, rfl⟩
      have hPn : P + n ≤ p := by
        have : (k + 1) * n ≤ n * n := Nat.mul_le_mul_right n hlt
        rw [Nat.succ_mul] at this
        rw [hP, hp.out]; exact this
      have HP := Lib.hid hP
      obtain ⟨z, hze⟩ : ∃ z, z = zs.getD (P + k) 0 := ⟨_, rfl⟩
      obtain ⟨v, hv⟩ : ∃ v, rep z = v := ⟨_, rfl⟩
      have HZ := Lib.hid hze
      have HV := Lib.hid hv
      have keep : ∀ w', w2.grownBy w' (some h) → w'.heap[h]? = wr.heap[h]? → (Hid (w2.grownBy w' (some h) ∧ w'.heap[h]? = wr.heap[h]?) ∧ w'.cell? ⟨T, 0, none⟩ = some (.func (.func 89) #[] #[]) ∧ w'.cell? ⟨T, 1, none⟩ = some (.int .i64 0) ∧ w'.cell? ⟨T, 2, none⟩ = some (.func (.func 63) #[] #[]) ∧ w'.cell? ⟨T, 3, none⟩ = some (.int .i64 3) ∧ w'.cell? ⟨T, 4, none⟩ = some (.int .i64 n) ∧ w'.cell? ⟨T, 5, none⟩ = some (.slice (some ⟨h, 0, none⟩) p p) ∧ w'.cell? ⟨w.heap.size, 0, none⟩ = some (.func (.func 89) #[] #[]) ∧ w'.cell? ⟨w.heap.size, 1, none⟩ = some (.int .i64 0) ∧ w'.cell? ⟨w.heap.size, 2, none⟩ = some (.func (.func 63) #[] #[]) ∧ w'.cell? ⟨w.heap.size, 3, none⟩ = some (.int .i64 3) ∧ w'.cell? ⟨w.heap.size, 4, none⟩ = some (.int .i64 n) ∧ w'.cell? ⟨w.heap.size, 5, none⟩ = some (.slice (some ⟨g, 0, none⟩) p p) ∧ w'.cell? ⟨g, P + k, none⟩ = some (.int .i64 z)) := fun w' h' hR' => by
        obtain ⟨b0, b1, b2, b3, b4, b5⟩ := six_cells (show Blk w' T 101 #[_, _, _, _, _, _] from V2.out.grown h' hgs)
        obtain ⟨a0, a1, a2, a3, a4, a5⟩ := six_cells (show Blk w' w.heap.size 101 #[_, _, _, _, _, _] from S2.out.grown h' (by omega))
        exact ⟨⟨h', hR'⟩, b0, b1, b2, b3, b4, b5, a0, a1, a2, a3, a4, a5, by rw [hze]; exact Nm.at_ (Blk.grown Z2.out h' (by omega)) (by have := hz.out; omega)⟩
      have K := Lib.hid keep
      have hRw : h < wr.heap.size := Blk.lt hsq.out
      have hS0 := K.out wr.drew (grow_trans hg2.out (grow_drew _ _)) rfl
      have i0 : (0 : Int) ≤ (k : Int) := by omega
      have i1 : (k : Int) < (n : Int) := by omega
      have hb4 := (six_cells (show Blk wr w.heap.size 101 #[_, _, _, _, _, _] from S2.out.grown hg2.out (by omega))).2.2.2.2.1
      clear keep hP hze hv
      go_wp2_with fail
      refine wp_region_Z (S := fun w' => Hid (w2.grownBy w' (some h) ∧ w'.heap[h]? = wr.heap[h]?) ∧ w'.cell? ⟨T, 0, none⟩ = some (.func (.func 89) #[] #[]) ∧ w'.cell? ⟨T, 1, none⟩ = some (.int .i64 0) ∧ w'.cell? ⟨T, 2, none⟩ = some (.func (.func 63) #[] #[]) ∧ w'.cell? ⟨T, 3, none⟩ = some (.int .i64 3) ∧ w'.cell? ⟨T, 4, none⟩ = some (.int .i64 n) ∧ w'.cell? ⟨T, 5, none⟩ = some (.slice (some ⟨h, 0, none⟩) p p) ∧ w'.cell? ⟨w.heap.size, 0, none⟩ = some (.func (.func 89) #[] #[]) ∧ w'.cell? ⟨w.heap.size, 1, none⟩ = some (.int .i64 0) ∧ w'.cell? ⟨w.heap.size, 2, none⟩ = some (.func (.func 63) #[] #[]) ∧ w'.cell? ⟨w.heap.size, 3, none⟩ = some (.int .i64 3) ∧ w'.cell? ⟨w.heap.size, 4, none⟩ = some (.int .i64 n) ∧ w'.cell? ⟨w.heap.size, 5, none⟩ = some (.slice (some ⟨g, 0, none⟩) p p) ∧ w'.cell? ⟨g, P + k, none⟩ = some (.int .i64 z)) (by kernel_rfl) hS0 (fun hS => ?_)
      clear hS0 hb4

      refine wpAnyZ_take (i := 0) (v := ?vb0) rfl (by kernel_rfl) (by kernel_rfl) (by kernel_rfl) (by kernel_rfl) (fun _ _ _ h => h) (Or.inl ⟨by rfl, ?yb0⟩) (by with_reducible assumption) ?rb0
      case yb0 => (intro w hSw; (try dsimp only at hSw); go_simp; (try with_reducible rfl))
      simp only [Act.put, List.setIfInBounds_toArray]
      refine wpAnyZ_take (i := 1) (v := ?vb1) rfl (by kernel_rfl) (by kernel_rfl) (by kernel_rfl) (by kernel_rfl) (fun _ _ _ h => h) (Or.inl ⟨by rfl, ?yb1⟩) (by with_reducible assumption) ?rb1
      case yb1 => (intro w hSw; (try dsimp only at hSw); go_simp; (try with_reducible rfl))
      simp only [Act.put]
      refine wpAnyZ_take (i := 3) (v := ?vb3) rfl (by kernel_rfl) (by kernel_rfl) (by kernel_rfl) (by kernel_rfl) (fun _ _ _ h => h) (Or.inl ⟨by rfl, ?yb3⟩) (by with_reducible assumption) ?rb3
      case yb3 => (intro w hSw; (try dsimp only at hSw); go_simp; (try with_reducible rfl))
      simp only [Act.put]
      refine wpAnyZ_take (i := 4) (v := ?vb4) rfl (by kernel_rfl) (by kernel_rfl) (by kernel_rfl) (by kernel_rfl) (fun _ _ _ h => h) (Or.inl ⟨by rfl, ?yb4⟩) (by with_reducible assumption) ?rb4
      case yb4 => (intro w hSw; (try dsimp only at hSw); go_simp; (try with_reducible rfl))
      simp only [Act.put]
      refine wpAnyZ_take (i := 5) (v := ?vb5) rfl (by kernel_rfl) (by kernel_rfl) (by kernel_rfl) (by kernel_rfl) (fun _ _ _ h => h) (Or.inl ⟨by rfl, ?yb5⟩) (by with_reducible assumption) ?rb5
      case yb5 => (intro w hSw; (try dsimp only at hSw); go_simp; (try with_reducible rfl))
      simp only [Act.put]
      refine wpAnyZ_take (i := 7) (v := ?vb7) rfl (by kernel_rfl) (by kernel_rfl) (by kernel_rfl) (by kernel_rfl) (fun _ _ _ h => h) (Or.inl ⟨by rfl, ?yb7⟩) (by with_reducible assumption) ?rb7
      case yb7 => (intro w hSw; (try dsimp only at hSw); go_simp; (try with_reducible rfl))
      simp only [Act.put]
      (try simp only [Act.put])
      refine wpAnyZ_step (i := 2) (by kernel_rfl) rfl ?_
      intro K1 hK1
      go_simp
      refine (g_row_is h n p k P n1 n2 hlt HP.out hPn _).mono ?_
      rintro e w3 ⟨rfl, hb3⟩
      have hS3 := K.out _ (grow_trans hS.1.out.1 (grow_below_any hb3 _)) ((hb3.block h hRw).trans hS.1.out.2)
      have hR3 : h < w3.heap.size := Nat.lt_of_lt_of_le hRw hb3.size
      refine hK1.out _ _ hS3 (fun hS1 => ?_)
      clear hK1 hS hS3 hb3
      (try simp only [Act.put])
      refine wpAnyZ_step (i := 6) (by kernel_rfl) rfl ?_
      intro K2 hK2
      go_simp
      refine (g_row_is g n p k P n1 n2 hlt HP.out hPn _).mono ?_
      rintro e w4 ⟨rfl, hb4⟩
      have hS4 := K.out _ (grow_trans hS1.1.out.1 (grow_below_any hb4 _)) ((hb4.block h hR3).trans hS1.1.out.2)
      have hR4 : h < w4.heap.size := Nat.lt_of_lt_of_le hR3 hb4.size
      refine hK2.out _ _ hS4 (fun hS2 => ?_)
      clear hK2 hS1 hS4 hb4
      (try simp only [Act.put])
      refine wpAnyZ_take (i := 8) (v := ?vc8) rfl (by kernel_rfl) (by kernel_rfl) (by kernel_rfl) (by kernel_rfl) (fun _ _ _ h => h) (Or.inl ⟨by rfl, ?yc8⟩) (by with_reducible assumption) ?rc8
      case yc8 => (intro w hSw; (try dsimp only at hSw); go_simp; (try with_reducible rfl))
      simp only [Act.put]
      refine wpAnyZ_take (i := 9) (v := ?vc9) rfl (by kernel_rfl) (by kernel_rfl) (by kernel_rfl) (by kernel_rfl) (fun _ _ _ h => h) (Or.inl ⟨by rfl, ?yc9⟩) (by with_reducible assumption) ?rc9
      case yc9 => (intro w hSw; (try dsimp only at hSw); go_simp; (try with_reducible rfl))
      simp only [Act.put]
      (try simp only [Act.put])
      refine wpAnyZ_step (i := 10) (by kernel_rfl) rfl ?_
      intro K3 hK3
      go_simp
      refine (repeated_is z v _ HV.out).mono ?_
      rintro e w5 ⟨rfl, rfl⟩
      refine hK3.out _ _ hS2 (fun hS3 => ?_)
      clear hK3 hS2
      (try simp only [Act.put])
      refine wpAnyZ_take (i := 11) (v := ?ve11) rfl (by kernel_rfl) (by kernel_rfl) (by kernel_rfl) (by kernel_rfl) (fun _ _ _ h => h) (Or.inl ⟨by rfl, ?ye11⟩) (by with_reducible assumption) ?re11
      case ye11 => (intro w hSw; (try dsimp only at hSw); go_simp; (try with_reducible rfl))
      simp only [Act.put]
      have hsq4 : GSq w4 h cs := hS3.1.out.2.trans hsq.out
      have hcell := hsq4.at_ (k := P + k) (by have := hcl.out; omega)
      have hfr := hsq4.fz (P + k)
      have Q4 := Lib.hid (hsq4.set_ (P + k) v)
      have G4 := Lib.hid (grow_trans hS3.1.out.1 (grow_set w4 h (P + k) (.int .i64 v)))
      have D1 : Hid (∀ q, q < p → (cs.set (P + k) v).getD q 0 = if q / n = q % n ∧ q / n < k + 1 then rep (zs.getD q 0) else (gunitL n).getD q 0) := fun q hq => by
        rw [getD_set _ _ _ _ (by have := hcl.out; omega)]
        by_cases e : q = P + k
        · have h1 : q / n = k := by rw [e, HP.out]; exact at_div hlt
          have h2 : q % n = k := by rw [e, HP.out]; exact at_mod hlt
          rw [if_pos e, if_pos ⟨by omega, by omega⟩, e, ← HZ.out, HV.out]
        · rw [if_neg e, hpre.out q hq]
          by_cases e1 : q / n = q % n ∧ q / n < k
          · rw [if_pos e1, if_pos ⟨e1.1, by omega⟩]
          · rw [if_neg e1, if_neg]
            rintro ⟨h1, h2⟩
            have h3 : q / n = k := by omega
            have h4 := Nat.div_add_mod q n
            rw [← h1, h3, Nat.mul_comm, ← HP.out] at h4
            omega
      clear hsq4
      (try simp only [Act.put])
      refine wpAnyZ_last (i := 12) (by kernel_rfl) rfl (by kernel_rfl) ?_
      intro K4 hK4
      go_simp
      refine hK4.out _ _ ?_
      clear hK4 hS3 hcell hfr
      go_wp2_with fail
      go_roundg (n - (k + 1))
      case rel => exact ⟨k + 1, cs.set (P + k) v, by omega, rfl, by go_num, by show _ = _; rw [List.length_set]; exact hcl.out, D1, Q4, G4⟩
      case measure => omega
    · obtain rfl : n = k := by omega
      have hrr := R2.out.grown hg2.out (by omega)
      have hvr := V2.out.grown hg2.out hgs
      obtain ⟨a0, a1, a2, a3, a4, a5⟩ := six_cells (show Blk wr T 101 #[_, _, _, _, _, _] from hvr)
      obtain ⟨d0, d1, d2, d3, d4, d5⟩ := six_cells hrr
      obtain ⟨f0, f1, f2, f3, f4, f5⟩ := six_frozen hrr
      have HRR := Lib.hid hrr
      have HZS : Hid (cs = loopL n zs) := eq_of_getD (by rw [hcl.out, HL.out]) (fun q hq => by
        have hq' : q < p := by rw [← hcl.out]; exact hq
        have hqn : q < n * n := by rw [← hp.out]; exact hq'
        rw [hpre.out q hq', loopL_at zs hqn, gunitL_at hqn]
        have hd := div_lt_ hqn
        by_cases e : q / n = q % n
        · rw [if_pos ⟨e, hd⟩, if_pos e]
        · rw [if_neg (fun h => e h.1), if_neg e, if_neg e])
      clear hrr hvr
      go_wp2_with fail
      refine bodyPost_ret (results_1 rfl (g_gives_sq (g := w.heap.size + 1) rfl (blk_six HRR.out))) rfl ?_
      refine ⟨h, rfl, ?_, by omega, ?_⟩
      · exact (B2.out.grown hg2.out B2.out.size (fun j hj => by cases hj; omega)).grown (grow_six _ _ _ _ _ _ _ _) (by have := hg2.out.size; have := B2.out.size; omega) (fun j hj => by cases hj; omega)
      · rw [← HZS.out]
        exact Blk.grown hsq.out (grow_six _ _ _ _ _ _ _ _) (by omega)

theorem stab_any (n p g : Nat) (zs : List Int) (w : World) (n1 : 1 ≤ n) (n2 : n ≤ 4) (hp : Hid (p = n * n)) (hgv : Hid (GV n zs)) (p1 : p ≤ 16) (hq : GSq w g zs) :
    Calls Tryz.prog 74 #[gsqV n (.slice (some ⟨g, 0, none⟩) p p)] w fun e w' => ∃ g', e = .returned (gsqV n (.slice (some ⟨g', 0, none⟩) p p)) ∧ Below w.heap.size w w' ∧ w.heap.size ≤ g' ∧ GSq w' g' (stabL n zs) := by
  have hgw := Blk.lt hq
  have hz : Hid (zs.length = p) := hgv.out.len.trans hp.out.symm
  have hv2 := Lib.hid (loopL_ok hgv.out)
  have hv3 := Lib.hid (gmulL_ok hgv.out hv2.out)
  have hz2 : Hid ((loopL n zs).length = p) := hv2.out.len.trans hp.out.symm
  have hz3 : Hid ((gmulL n zs (loopL n zs)).length = p) := hv3.out.len.trans hp.out.symm
  have HB1 : Hid (∀ q, q < p → 0 ≤ zs.getD q 0 ∧ zs.getD q 0 ≤ 3) := fun q hq => hgv.out.at_ hp.out hq
  have HB2 : Hid (∀ q, q < p → 0 ≤ (loopL n zs).getD q 0 ∧ (loopL n zs).getD q 0 ≤ 3) := fun q hq => hv2.out.at_ hp.out hq
  have HB3 : Hid (∀ q, q < p → 0 ≤ (gmulL n zs (loopL n zs)).getD q 0 ∧ (gmulL n zs (loopL n zs)).getD q 0 ≤ 3) := fun q hq => hv3.out.at_ hp.out hq
  unfold gsqV
  go_enter Tryz.func74, Tryz.ntmps74
  go_wp2_with fail
  obtain ⟨w1, hw1⟩ : ∃ w1, w1 = (w.alloc (.cells (gsqC n (.slice (some ⟨g, 0, none⟩) p p)) 101)).alloc (.cells #[.nilFunc, .int .i64 0, .nilFunc, .int .i64 0, .int .i64 0, .slice none 0 0] 101) := ⟨_, rfl⟩
  have S1 : Blk w1 w.heap.size 101 (gsqC n (.slice (some ⟨g, 0, none⟩) p p)) := by rw [hw1]; exact (Blk.new _ _ _).alloc _
  have R1 : Hid (Blk w1 (w.heap.size + 1) 101 #[.nilFunc, .int .i64 0, .nilFunc, .int .i64 0, .int .i64 0, .slice none 0 0]) := by rw [hw1]; exact blk_new (by simp)
  have Q1 : Hid (GSq w1 g zs) := by rw [hw1]; exact Blk.alloc (Blk.alloc hq _) _
  have B1 : Hid (Below w.heap.size w w1) := by rw [hw1]; exact below_a2 _ _ _
  have hRw := Blk.lt R1.out
  unfold gsqC at hw1
  rw [← hw1]
  have keep : ∀ w', Below w1.heap.size w1 w' → (Hid (Below w1.heap.size w1 w') ∧ w'.cell? ⟨w.heap.size, 0, none⟩ = some (.func (.func 89) #[] #[]) ∧ w'.cell? ⟨w.heap.size, 1, none⟩ = some (.int .i64 0) ∧ w'.cell? ⟨w.heap.size, 2, none⟩ = some (.func (.func 63) #[] #[]) ∧ w'.cell? ⟨w.heap.size, 3, none⟩ = some (.int .i64 3) ∧ w'.cell? ⟨w.heap.size, 4, none⟩ = some (.int .i64 n) ∧ w'.cell? ⟨w.heap.size, 5, none⟩ = some (.slice (some ⟨g, 0, none⟩) p p)) := fun w' h => by
    obtain ⟨a0, a1, a2, a3, a4, a5⟩ := six_cells (show Blk w' w.heap.size 101 #[_, _, _, _, _, _] from S1.below h (Blk.lt S1))
    exact ⟨h, a0, a1, a2, a3, a4, a5⟩
  have K := Lib.hid keep
  have hS0 := K.out w1.drew (Below.refl _ _).drew
  obtain ⟨R, hR⟩ : ∃ R, R = w.heap.size + 1 := ⟨_, rfl⟩
  rw [← hR] at R1 hRw ⊢
  have hRg : w.heap.size < R := by omega
  clear keep hw1 S1 hq hR
  refine wp_region_Z (S := fun w' => Hid (Below w1.heap.size w1 w') ∧ w'.cell? ⟨w.heap.size, 0, none⟩ = some (.func (.func 89) #[] #[]) ∧ w'.cell? ⟨w.heap.size, 1, none⟩ = some (.int .i64 0) ∧ w'.cell? ⟨w.heap.size, 2, none⟩ = some (.func (.func 63) #[] #[]) ∧ w'.cell? ⟨w.heap.size, 3, none⟩ = some (.int .i64 3) ∧ w'.cell? ⟨w.heap.size, 4, none⟩ = some (.int .i64 n) ∧ w'.cell? ⟨w.heap.size, 5, none⟩ = some (.slice (some ⟨g, 0, none⟩) p p)) (by kernel_rfl) hS0 (fun hS => ?_)
  clear hS0

  refine wpAnyZ_take (i := 0) (v := ?vg0) rfl (by kernel_rfl) (by kernel_rfl) (by kernel_rfl) (by kernel_rfl) (fun _ _ _ h => h) (Or.inl ⟨by rfl, ?yg0⟩) (by with_reducible assumption) ?rg0
  case yg0 => (intro w hSw; (try dsimp only at hSw); go_simp; (try with_reducible rfl))
  simp only [Act.put, List.setIfInBounds_toArray]
  refine wpAnyZ_take (i := 1) (v := ?vg1) rfl (by kernel_rfl) (by kernel_rfl) (by kernel_rfl) (by kernel_rfl) (fun _ _ _ h => h) (Or.inl ⟨by rfl, ?yg1⟩) (by with_reducible assumption) ?rg1
  case yg1 => (intro w hSw; (try dsimp only at hSw); go_simp; (try with_reducible rfl))
  simp only [Act.put]
  refine wpAnyZ_take (i := 4) (v := ?vg4) rfl (by kernel_rfl) (by kernel_rfl) (by kernel_rfl) (by kernel_rfl) (fun _ _ _ h => h) (Or.inl ⟨by rfl, ?yg4⟩) (by with_reducible assumption) ?rg4
  case yg4 => (intro w hSw; (try dsimp only at hSw); go_simp; (try with_reducible rfl))
  simp only [Act.put]
  (try simp only [Act.put])
  refine wpAnyZ_step (i := 2) (by kernel_rfl) rfl ?_
  intro K1 hK1
  go_simp
  refine (loops_any n p g zs _ n1 n2 hp hz p1 (Nm.below Q1.out hS.1.out)).mono ?_
  rintro e w3 ⟨g3, rfl, hb3, hg3, hq3⟩
  have hS3 := K.out _ (below_on hS.1.out hb3)
  refine hK1.out _ _ hS3 (fun hS1 => ?_)
  clear hK1 hS hS3
  (try simp only [Act.put])
  refine wpAnyZ_step (i := 3) (by kernel_rfl) rfl ?_
  intro K2 hK2
  go_simp
  refine (g_times_any n p g g3 zs _ _ n1 n2 hp hz hz2 p1 HB1 HB2 (Nm.below Q1.out hS1.1.out) hq3).mono ?_
  rintro e w4 ⟨g4, rfl, hb4, hg4, hq4⟩
  have hS4 := K.out _ (below_on hS1.1.out hb4)
  refine hK2.out _ _ hS4 (fun hS2 => ?_)
  clear hK2 hS1 hS4 hq3
  (try simp only [Act.put])
  refine wpAnyZ_step (i := 5) (by kernel_rfl) rfl ?_
  intro K3 hK3
  go_simp
  refine (g_times_any n p g4 g _ zs _ n1 n2 hp hz3 hz p1 HB3 HB1 hq4 (Nm.below Q1.out hS2.1.out)).mono ?_
  rintro e w5 ⟨g5, rfl, hb5, hg5, hq5⟩
  have hS5 := K.out _ (below_on hS2.1.out hb5)
  refine hK3.out _ _ hS5 (fun hS3 => ?_)
  clear hK3 hS2 hS5 hq4
  rw [gmulL_loop hgv.out] at hq5
  have R5 := Lib.hid (R1.out.below hS3.1.out hRw)
  have HB := Lib.hid (below_on B1.out hS3.1.out)
  have hg6 : R < g5 := by have hdr : w1.drew.heap.size = w1.heap.size := rfl; have := hS3.1.out.size; have := hb5.size; have := hb4.size; have := hg5; have h1 := hb3.size; omega
  obtain ⟨d0, d1, d2, d3, d4, d5⟩ := six_cells R5.out
  obtain ⟨f0, f1, f2, f3, f4, f5⟩ := six_frozen R5.out
  have Q5 := Lib.hid hq5
  clear hb3 hb4 hb5 hg3 hg4 hg5 hq5 HB1 HB2 HB3
  (try simp only [Act.put])
  refine wpAnyZ_last (i := 6) (by kernel_rfl) rfl (by kernel_rfl) ?_
  intro K4 hK4
  unfold gsqV
  go_simp
  refine hK4.out _ _ ?_
  clear hK4 hS3
  go_wp2_with fail
  refine bodyPost_ret (results_1 rfl (g_gives_sq (g := R) rfl (blk_six R5.out))) rfl ?_
  refine ⟨g5, rfl, below_sq HB.out _ (by omega) _ _ _ _ _ _, by omega, ?_⟩
  exact Blk.grown Q5.out (grow_six _ R _ _ _ _ _ _) (by omega)
end Go.Proofs.YthcfdmphephfpaaGreat
