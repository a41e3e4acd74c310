/- MinMatrix, as the model has it: the plain function of its numbers, in new memory; nothing that was there changes. -/
import Derived.Test.YtidahhfpnhmkgabSpecTurn
import Derived.Test.YtidahhfpnhmkgabFaceMin
namespace Go.Proofs.Ytidahhfpnhmkgab
open Go.RowKit
set_option maxHeartbeats 1000000
set_option maxRecDepth 100000
set_option linter.unusedVariables false

theorem l2Two_is (m m' : Int) (A A' : Option Addr) (cap cap' : Nat) (zs ys : List Int) (r : Bool) (w : World) (hz : Ints w w.heap.size A zs) (hy : Ints w w.heap.size A' ys) (hr : twoOk m zs m' ys = r) :
    Calls Try.prog 35 #[.agg #[.int .i64 m, .slice A zs.length cap], .agg #[.int .i64 m', .slice A' ys.length cap']] w fun e w' => e = .returned (.bool r) ∧ Below w.heap.size w w' := by
  rcases Bool.eq_false_or_eq_true (matOk m zs) with h1 | h1
  · rcases Bool.eq_false_or_eq_true (matOk m' ys) with h2 | h2
    · have hR : Hid (r = decide (m = m')) := by show _ = _; rw [← hr]; simp [twoOk, h1, h2]
      have H1 := Lib.hid h1
      have H2 := Lib.hid h2
      have hmb : ((m == m') = true) = (decide (m = m') = true) := by simp
      obtain ⟨d, hd⟩ : ∃ d, d = (m == m') := ⟨_, rfl⟩
      have hR2 : Hid (r = d) := by show _ = _; rw [hR.out, hd]; by_cases e : m = m' <;> simp [e]
      clear h1 h2 hr hmb
      go_enter Try.func35, Try.ntmps35
      go_wp2_with fail
      refine (sMatrixValid_is _ _ _ _ _ _ (ints_al (ints_al hz _) _) H1.out).mono ?_
      rintro e w1 ⟨rfl, hb1⟩
      have hbA := below_on (below_a2 w _ _) hb1
      have pA : Blk w1 w.heap.size 25 #[.int .i64 m, .slice A zs.length cap] := ((Blk.new w _ _).alloc _).below hb1 (by simp; omega)
      have qA : Blk w1 (w.heap.size + 1) 25 #[.int .i64 m', .slice A' ys.length cap'] := (blk_new (by simp)).below hb1 (by simp)
      obtain ⟨b0, b1⟩ := two_cells qA
      clear hb1 hd
      go_wp2_with fail
      refine (sMatrixValid_is _ _ _ _ _ _ ((hy.below hbA).more hbA.size) H2.out).mono ?_
      rintro e w9 ⟨rfl, hb2⟩
      have HB := Lib.hid (below_on hbA hb2)
      obtain ⟨a0, a1⟩ := cells_below pA hb2
      obtain ⟨a2, a3⟩ := cells_below qA hb2
      clear hb2 hbA pA qA b0 b1
      go_wp2_with fail
      go_ret
      exact ⟨ret_bool (by rw [hR.out]; by_cases e : m = m' <;> simp [e]), HB.out⟩
    · have hR : r = false := by rw [← hr]; simp [twoOk, h2]
      have H1 := Lib.hid h1
      have H2 := Lib.hid h2
      clear h1 h2 hr
      go_enter Try.func35, Try.ntmps35
      go_wp2_with fail
      refine (sMatrixValid_is _ _ _ _ _ _ (ints_al (ints_al hz _) _) H1.out).mono ?_
      rintro e w1 ⟨rfl, hb1⟩
      have hbA := below_on (below_a2 w _ _) hb1
      have qA : Blk w1 (w.heap.size + 1) 25 #[.int .i64 m', .slice A' ys.length cap'] := (blk_new (by simp)).below hb1 (by simp)
      obtain ⟨b0, b1⟩ := two_cells qA
      clear hb1
      go_wp2_with fail
      refine (sMatrixValid_is _ _ _ _ _ _ ((hy.below hbA).more hbA.size) H2.out).mono ?_
      rintro e w9 ⟨rfl, hb2⟩
      go_wp2_with fail
      go_ret
      exact ⟨ret_bool hR.symm, below_on hbA hb2⟩
  · have hR : r = false := by rw [← hr]; simp [twoOk, h1]
    have H1 := Lib.hid h1
    clear h1 hr
    go_enter Try.func35, Try.ntmps35
    go_wp2_with fail
    refine (sMatrixValid_is _ _ _ _ _ _ (ints_al (ints_al hz _) _) H1.out).mono ?_
    rintro e w1 ⟨rfl, hb1⟩
    go_wp2_with fail
    go_ret
    exact ⟨ret_bool hR.symm, below_on (below_a2 w _ _) hb1⟩

theorem l2Min_any (N p : Nat) (A A' : Option Addr) (cap cap' : Nat) (zs ys : List Int) (w : World) (n1 : 1 ≤ N) (n2 : N ≤ 4) (p1 : p ≤ 16) (HP : Hid (p = N * N)) (HLP : Hid (zs.length = p)) (HLQ : Hid (ys.length = p)) (hz : Ints w w.heap.size A zs) (hy : Ints w w.heap.size A' ys) :
    Calls Try.prog 45 #[.agg #[.int .i64 N, .slice A p cap], .agg #[.int .i64 N, .slice A' p cap']] w fun e w' => ∃ v, e = .returned v ∧ MatOwn w' w.heap.size v N (minL N zs ys) ∧ Below w.heap.size w w' := by
  go_enter Try.func45, Try.ntmps45
  go_wp2_with fail
  obtain ⟨V, hV⟩ : ∃ V, V = w.heap.size + 1 + 1 + 1 := ⟨_, rfl⟩
  obtain ⟨w2, hw2⟩ : ∃ w2, w2 = (((w.alloc (.cells #[.int .i64 N, .slice A p cap] 25)).alloc (.cells #[.int .i64 N, .slice A' p cap'] 25)).alloc (.cells #[.int .i64 0, .slice none 0 0] 25)).alloc (.cells #[.int .i64 N, .slice none 0 0] 25) := ⟨_, rfl⟩
  have v2 : Blk w2 V 25 #[.int .i64 N, .slice none 0 0] := by rw [hw2, hV]; exact blk_new (by simp)
  have P2 : Hid (Blk w2 w.heap.size 25 #[.int .i64 N, .slice A p cap]) := by rw [hw2]; exact (((Blk.new _ _ _).alloc _).alloc _).alloc _
  have Q2 : Hid (Blk w2 (w.heap.size + 1) 25 #[.int .i64 N, .slice A' p cap']) := by rw [hw2]; exact ((blk_new (by simp)).alloc _).alloc _
  have R2 : Hid (Blk w2 (w.heap.size + 1 + 1) 25 #[.int .i64 0, .slice none 0 0]) := by rw [hw2]; exact (blk_new (by simp)).alloc _
  have B2 : Hid (Below w.heap.size w w2) := by rw [hw2]; exact below_al (below_a3 _ _ _ _) (Nat.le_refl _) _
  have hVr : w.heap.size + 1 + 1 < V := by rw [hV]; omega
  have V2 := Lib.hid v2
  have hs2 : V < w2.heap.size := Blk.lt v2
  rw [← hw2, ← hV]
  clear hw2 hV v2
  have HL : Hid ((minL N zs ys).length = p) := by show _ = _; unfold minL; rw [ofF_len, HP.out]
  have HM : Hid (∀ k, k < p → (minL N zs ys).getD k 0 = min (zs.getD k 0) (ys.getD k 0)) := by
    intro k hk
    have hk' : k < N * N := by rw [← HP.out]; exact hk
    unfold minL
    rw [ofF_getD _ hk']
    show min (zs.getD (k / N * N + k % N) 0) (ys.getD (k / N * N + k % N) 0) = _
    rw [Nat.mul_comm, Nat.div_add_mod]
  obtain ⟨i0, hi, hz0, hz1, hz2⟩ := info_parts info_int
  have Z0 := Lib.hid hz0
  have Z1 := Lib.hid hz1
  have Z2 := Lib.hid hz2
  have ZI := Lib.hid hi
  have HZ0 := Lib.hid hz
  have HY0 := Lib.hid hy
  clear hz0 hz1 hz2 hi hz hy
  go_loopw [13] (fun i wr => ∃ (k : Nat) (Ao : Option Addr) (capo : Nat), k ≤ p ∧ i = .int .i64 k ∧ Hid (Blk wr V 25 #[.int .i64 N, .slice Ao k capo]) ∧ Hid (wr.ownsRow w2.heap.size 3 1 (.slice Ao k capo) k (((minL N zs ys).take k).map (Value.int .i64))) ∧ Hid (w2.grownBy wr (some V))) (fun i _ => p - (intOf i).toNat)
  case atStart => exact ⟨0, none, 0, Nat.zero_le _, rfl, V2, World.ownsRow_nil _ _ _ _, World.grownBy.refl _ _⟩
  case round =>
    obtain ⟨k, Ao, capo, hk, rfl, hv, hown, hg2⟩ := hrel
    by_cases hlt : k < p
    · obtain ⟨b, off, x, rfl, hbB, hcx, _, hgx⟩ := HZ0.out.at_ (k := k) (by have := HLP.out; omega)
      obtain ⟨b', off', y, rfl, hbB', hcy, _, hgy⟩ := HY0.out.at_ (k := k) (by have := HLQ.out; omega)
      obtain ⟨z, hz⟩ : ∃ z, z = min x y := ⟨_, rfl⟩
      have HGZ : Hid ((minL N zs ys).getD k 0 = z) := by show _ = _; rw [HM.out k hlt, hgx, hgy, hz]
      have hm1 : (if y < x then y else x) = z := by rw [hz]; split <;> omega
      have hm2 : (if y < x then Value.int .i64 y else Value.int .i64 x) = Value.int .i64 z := by rw [← hm1]; split <;> rfl
      have i1 : (k : Int) < (p : Int) := by omega
      have i2 : (0 : Int) ≤ (k : Int) := by omega
      have keep : ∀ w', w2.grownBy w' (some V) → w'.heap[V]? = wr.heap[V]? → (Hid (w2.grownBy w' (some V) ∧ w'.heap[V]? = wr.heap[V]?) ∧ w'.cell? ⟨w.heap.size, 1, none⟩ = some (.slice (some ⟨b, off, none⟩) p cap) ∧ w'.cell? ⟨w.heap.size + 1, 1, none⟩ = some (.slice (some ⟨b', off', none⟩) p cap') ∧ w'.cell? ⟨V, 1, none⟩ = some (.slice Ao k capo) ∧ w'.cell? ⟨b, off + k, none⟩ = some (.int .i64 x) ∧ w'.cell? ⟨b', off' + k, none⟩ = some (.int .i64 y)) := by
        intro w' h hV
        have p0 := P2.out.grown h (by omega)
        have q0 := Q2.out.grown h (by omega)
        have v0 : Blk w' V 25 #[.int .i64 N, .slice Ao k capo] := hV.trans hv.out
        have hb := B2.out.grown h B2.out.size (fun j hj => by cases hj; omega)
        exact ⟨⟨h, hV⟩, p0.cell 1, q0.cell 1, v0.cell 1, (hb.cell (p := ⟨b, off + k, none⟩) hbB).trans hcx, (hb.cell (p := ⟨b', off' + k, none⟩) hbB').trans hcy⟩
      have K := Lib.hid keep
      have hS0 := K.out wr.drew (grow_trans hg2.out (grow_drew _ _)) rfl
      have hVw : V < wr.heap.size := Blk.lt hv.out
      clear keep hcx hcy hgx hgy hz
      go_wp2_with fail
      refine wp_region_Z (S := fun w' => (Hid (w2.grownBy w' (some V) ∧ w'.heap[V]? = wr.heap[V]?) ∧ w'.cell? ⟨w.heap.size, 1, none⟩ = some (.slice (some ⟨b, off, none⟩) p cap) ∧ w'.cell? ⟨w.heap.size + 1, 1, none⟩ = some (.slice (some ⟨b', off', none⟩) p cap') ∧ w'.cell? ⟨V, 1, none⟩ = some (.slice Ao k capo) ∧ w'.cell? ⟨b, off + k, none⟩ = some (.int .i64 x) ∧ w'.cell? ⟨b', off' + k, none⟩ = some (.int .i64 y))) (by kernel_rfl) hS0 (fun hS => ?_)
      clear hS0
      refine wpAnyZ_take (i := 0) (v := ?vz0) rfl (by kernel_rfl) (by kernel_rfl) (by kernel_rfl) (by kernel_rfl) (fun _ _ _ h => h) (Or.inl ⟨by rfl, ?yz0⟩) (by with_reducible assumption) ?rz0
      case yz0 => (intro w hSw; (try dsimp only at hSw); go_simp; (try with_reducible rfl))
      simp only [Act.put, List.setIfInBounds_toArray]
      refine wpAnyZ_take (i := 1) (v := ?vz1) rfl (by kernel_rfl) (by kernel_rfl) (by kernel_rfl) (by kernel_rfl) (fun _ _ _ h => h) (Or.inl ⟨by rfl, ?yz1⟩) (by with_reducible assumption) ?rz1
      case yz1 => (intro w hSw; (try dsimp only at hSw); go_simp; (try with_reducible rfl))
      simp only [Act.put]
      refine wpAnyZ_take (i := 2) (v := ?vz2) rfl (by kernel_rfl) (by kernel_rfl) (by kernel_rfl) (by kernel_rfl) (fun _ _ _ h => h) (Or.inl ⟨by rfl, ?yz2⟩) (by with_reducible assumption) ?rz2
      case yz2 => (intro w hSw; (try dsimp only at hSw); go_simp; (try with_reducible rfl))
      simp only [Act.put]
      refine wpAnyZ_take (i := 3) (v := ?vz3) rfl (by kernel_rfl) (by kernel_rfl) (by kernel_rfl) (by kernel_rfl) (fun _ _ _ h => h) (Or.inl ⟨by rfl, ?yz3⟩) (by with_reducible assumption) ?rz3
      case yz3 => (intro w hSw; (try dsimp only at hSw); go_simp; (try with_reducible rfl))
      simp only [Act.put]
      refine wpAnyZ_take (i := 4) (v := ?vz4) rfl (by kernel_rfl) (by kernel_rfl) (by kernel_rfl) (by kernel_rfl) (fun _ _ _ h => h) (Or.inl ⟨by rfl, ?yz4⟩) (by with_reducible assumption) ?rz4
      case yz4 => (intro w hSw; (try dsimp only at hSw); go_simp; (try with_reducible rfl))
      simp only [Act.put]
      refine wpAnyZ_take (i := 5) (v := ?vz5) rfl (by kernel_rfl) (by kernel_rfl) (by kernel_rfl) (by kernel_rfl) (fun _ _ _ h => h) (Or.inl ⟨by rfl, ?yz5⟩) (by with_reducible assumption) ?rz5
      case yz5 => (intro w hSw; (try dsimp only at hSw); go_simp; (try with_reducible rfl))
      simp only [Act.put]
      refine wpAnyZ_take (i := 6) (v := ?vz6) rfl (by kernel_rfl) (by kernel_rfl) (by kernel_rfl) (by kernel_rfl) (fun _ _ _ h => h) (Or.inl ⟨by rfl, ?yz6⟩) (by with_reducible assumption) ?rz6
      case yz6 => (intro w hSw; (try dsimp only at hSw); go_simp; (try with_reducible rfl))
      simp only [Act.put]
      refine wpAnyZ_take (i := 7) (v := ?vz7) rfl (by kernel_rfl) (by kernel_rfl) (by kernel_rfl) (by kernel_rfl) (fun _ _ _ h => h) (Or.inl ⟨by rfl, ?yz7⟩) (by with_reducible assumption) ?rz7
      case yz7 => (intro w hSw; (try dsimp only at hSw); go_simp; (try with_reducible rfl))
      simp only [Act.put]
      refine wpAnyZ_take (i := 8) (v := ?vz8) rfl (by kernel_rfl) (by kernel_rfl) (by kernel_rfl) (by kernel_rfl) (fun _ _ _ h => h) (Or.inl ⟨by rfl, ?yz8⟩) (by with_reducible assumption) ?rz8
      case yz8 => (intro w hSw; (try dsimp only at hSw); go_simp; (try with_reducible rfl))
      simp only [Act.put]
      refine wpAnyZ_take (i := 9) (v := ?vz9) rfl (by kernel_rfl) (by kernel_rfl) (by kernel_rfl) (by kernel_rfl) (fun _ _ _ h => h) (Or.inl ⟨by rfl, ?yz9⟩) (by with_reducible assumption) ?rz9
      case yz9 => (intro w hSw; (try dsimp only at hSw); go_simp; (try with_reducible rfl))
      simp only [Act.put]
      refine wpAnyZ_take (i := 10) (v := ?vz10) rfl (by kernel_rfl) (by kernel_rfl) (by kernel_rfl) (by kernel_rfl) (fun _ _ _ h => h) (Or.inl ⟨by rfl, ?yz10⟩) (by with_reducible assumption) ?rz10
      case yz10 => (intro w hSw; (try dsimp only at hSw); go_simp; (try with_reducible rfl))
      simp only [Act.put]
      refine wpAnyZ_take (i := 11) (v := ?vz11) rfl (by kernel_rfl) (by kernel_rfl) (by kernel_rfl) (by kernel_rfl) (fun _ _ _ h => h) (Or.inl ⟨by rfl, ?yz11⟩) (by with_reducible assumption) ?rz11
      case yz11 => (intro w hSw; (try dsimp only at hSw); go_simp; (try with_reducible rfl))
      simp only [Act.put]
      refine wpAnyZ_take (i := 12) (v := ?vz12) rfl (by kernel_rfl) (by kernel_rfl) (by kernel_rfl) (by kernel_rfl) (fun _ _ _ h => h) (Or.inl ⟨by rfl, ?yz12⟩) (by with_reducible assumption) ?rz12
      case yz12 => (intro w hSw; (try dsimp only at hSw); go_simp; (try with_reducible rfl))
      simp only [Act.put]
      clear hm1 hm2
      refine wpAnyZ_step (i := 13) (by kernel_rfl) rfl ?_
      intro K1 hK1
      go_simp
      refine hK1.out _ _ (K.out _ (grow_trans hg2.out (grow_trans (grow_drew wr (some V)) (World.grownBy_alloc wr.drew _ (some V)))) (Below.heap_alloc wr.drew _ V hVw)) (fun hS1 => ?_)
      clear hK1
      refine wpAnyZ_step (i := 14) (by kernel_rfl) rfl ?_
      intro K2 hK2
      refine step_append_lies _ rfl _ _ 23 rfl w2.heap.size 3 i0 (.int .i64 0) 1 8 Try.underlying23 ZI.out Z0.out Z1.out Z2.out rfl (by decide) _ k _ rfl ((own_dr hown.out 1).alloc (.cells #[.int .i64 z] 3)) ⟨wr.heap.size, 0, none⟩ 1 1 [.int .i64 z] rfl rfl (lit_cell wr 1 _ _) (by intro u hu; simp at hu; subst hu; rfl) (by decide) (by unfold maxLen; omega) (by omega) (by have := hg2.out.size; simp; omega) _ rfl ?_
      intro g cap5 w5 hown' hgrow _ _
      have hrow : ∀ j, (Value.slice Ao k capo).ownBlock = some j → w2.heap.size ≤ j := fun j hj => (hown.out.lt j hj).1
      have G5 := Lib.hid (app_grown (m := 1) hg2.out hgrow hrow)
      have V5 := Lib.hid (app_blk (m := 1) hv.out hgrow hs2 hrow)
      refine hK2.out _ _ (K.out _ G5.out (V5.out.trans hv.out.symm)) (fun hS2 => ?_)
      clear hK2 hS1
      simp only [Act.put]
      refine wpAnyZ_take (i := 15) (v := ?vz15) rfl (by kernel_rfl) (by kernel_rfl) (by kernel_rfl) (by kernel_rfl) (fun _ _ _ h => h) (Or.inl ⟨by rfl, ?yz15⟩) (by with_reducible assumption) ?rz15
      case yz15 => (intro w hSw; (try dsimp only at hSw); go_simp; (try with_reducible rfl))
      simp only [Act.put]
      have hown6 := own_cast hown' rfl (show _ = (((minL N zs ys).take (k + 1)).map (Value.int .i64)) by rw [take_snoc (by have := HL.out; omega) HGZ.out, int_snoc])
      obtain ⟨x0, x1⟩ := two_cells V5.out
      obtain ⟨f0, f1⟩ := two_frozen V5.out
      have V6 := Lib.hid (V5.out.set_ 1 (.slice (some ⟨g, 0, none⟩) (k + 1) cap5))
      have O6 := Lib.hid (own_far hown6 (grow_set w5 V 1 (.slice (some ⟨g, 0, none⟩) (k + 1) cap5)) hs2)
      have G6 := Lib.hid (grow_trans G5.out (grow_set w5 V 1 (.slice (some ⟨g, 0, none⟩) (k + 1) cap5)))
      clear hown' hgrow hown6 hrow hS2
      refine wpAnyZ_last (i := 16) (by kernel_rfl) rfl (by kernel_rfl) ?_
      intro K3 hK3
      go_simp
      refine hK3.out _ _ ?_
      clear hK3
      go_wp2_with fail
      go_roundw
      case rel => exact ⟨k + 1, some ⟨g, 0, none⟩, cap5, by omega, by go_num, V6.out, O6.out, G6.out⟩
      case measure => simp [intOf]; omega
    · have hrr := R2.out.grown hg2.out (by omega)
      obtain ⟨a0, a1⟩ := two_cells hv.out
      obtain ⟨d0, d1⟩ := two_cells hrr
      obtain ⟨f0, f1⟩ := two_frozen hrr
      have hkp : k = p := by omega
      have HO : Hid (wr.ownsRow w2.heap.size 3 1 (.slice Ao k capo) k ((minL N zs ys).map (Value.int .i64))) := by
        have h := hown.out
        rw [List.take_of_length_le (by have := HL.out; omega)] at h
        exact h
      have RR := Lib.hid hrr
      have HB := Lib.hid (B2.out.grown hg2.out B2.out.size (fun j hj => by cases hj; omega))
      have HK : Hid ((minL N zs ys).length = k) := HL.out.trans hkp.symm
      clear hrr hkp
      go_wp2_with fail
      have HF := mat_fin_n (w := w) (m := (N : Int)) HK.out RR.out HO.out (by omega) (by omega) HB.out (by have := HL.out; omega)
      refine bodyPost_ret (results_1 rfl (gives_mat (g := w.heap.size + 1 + 1) rfl HF.1)) rfl ?_
      exact ⟨_, rfl, HF.2.1, HF.2.2⟩

theorem l2Two_p (m : Int) (p : Nat) (A A' : Option Addr) (cap cap' : Nat) (zs ys : List Int) (r : Bool) (w : World) (hl : zs.length = p) (hl' : ys.length = p) (hz : Ints w w.heap.size A zs) (hy : Ints w w.heap.size A' ys) (hr : twoOk m zs m ys = r) :
    Calls Try.prog 35 #[.agg #[.int .i64 m, .slice A p cap], .agg #[.int .i64 m, .slice A' p cap']] w fun e w' => e = .returned (.bool r) ∧ Below w.heap.size w w' := by
  have h := l2Two_is m m A A' cap cap' zs ys r w hz hy hr
  rw [hl, hl'] at h
  exact h

theorem sMin_any (m m' : Int) (A A' : Option Addr) (cap cap' : Nat) (zs ys : List Int) (w : World) (hz : Ints w w.heap.size A zs) (hy : Ints w w.heap.size A' ys) :
    Calls Try.prog 18 #[.agg #[.int .i64 m, .slice A zs.length cap], .agg #[.int .i64 m', .slice A' ys.length cap']] w fun e w' => MEnd (minR m zs m' ys) w e w' := by
  rcases Bool.eq_false_or_eq_true (twoOk m zs m' ys) with hok | hok
  · have HR : Hid (minR m zs m' ys = some (m, minL m.toNat zs ys)) := by show _ = _; unfold minR; rw [if_pos hok]
    obtain ⟨N, rfl, rfl, mv, mv'⟩ := twoOk_t hok
    have n1 := mv.lo
    have n2 := mv.hi
    obtain ⟨p, hp⟩ : ∃ p, p = N * N := ⟨_, rfl⟩
    have p1 : p ≤ 16 := by rw [hp]; exact mv.sq
    have HP := Lib.hid hp
    have hlp : zs.length = p := by rw [mv.len, hp]
    have hlq : ys.length = p := by rw [mv'.len, hp]
    have HLP := Lib.hid hlp
    have HLQ := Lib.hid hlq
    have HOK := Lib.hid hok
    clear hp mv mv' hok
    rw [hlp, hlq]
    clear hlp hlq
    go_enter Try.func18, Try.ntmps18
    go_wp2_with fail
    refine (l2Two_p _ p _ _ _ _ _ _ _ _ HLP.out HLQ.out (ints_al (ints_al (ints_al hz _) _) _) (ints_al (ints_al (ints_al hy _) _) _) HOK.out).mono ?_
    rintro e w1 ⟨rfl, hb1⟩
    have hbA := below_on (below_a3 w _ _ _) hb1
    have pA : Blk w1 w.heap.size 25 #[.int .i64 N, .slice A p cap] := (((Blk.new w _ _).alloc _).alloc _).below hb1 (by simp; omega)
    have qA : Blk w1 (w.heap.size + 1) 25 #[.int .i64 N, .slice A' p cap'] := ((blk_new (by simp)).alloc _).below hb1 (by simp)
    have rA : Blk w1 (w.heap.size + 1 + 1) 25 #[.int .i64 0, .slice none 0 0] := (blk_new (by simp)).below hb1 (by simp)
    obtain ⟨a0, a1⟩ := two_cells pA
    obtain ⟨a2, a3⟩ := two_cells qA
    have RA := Lib.hid rA
    have HB := Lib.hid hbA
    have I1 := Lib.hid ((hz.below hbA).more hbA.size)
    have J1 := Lib.hid ((hy.below hbA).more hbA.size)
    clear hb1 hbA pA qA rA hz hy
    go_wp2_with fail
    refine (l2Min_any N p _ _ _ _ zs ys _ n1 n2 p1 HP HLP HLQ I1.out J1.out).mono ?_
    rintro e w3 ⟨_, rfl, ⟨x, rfl, ho, hl⟩, hb3⟩
    obtain ⟨A3, cap3, rfl, _, _⟩ := own_ints ho (by unfold maxLen; omega)
    have HB3 := Lib.hid (below_on HB.out hb3)
    have R3 := Lib.hid (RA.out.below hb3 (Blk.lt RA.out))
    have HO := Lib.hid ho
    have hRw := Blk.lt RA.out
    obtain ⟨c0, c1⟩ := two_cells R3.out
    obtain ⟨f0, f1⟩ := two_frozen R3.out
    clear hb3 ho a0 a1 a2 a3
    go_wp2_with fail
    have HF := mat_fin (w := w) (m := (N : Int)) R3.out HO.out hRw (by omega) HB3.out hl
    refine bodyPost_ret (results_2 rfl (gives_mat (g := w.heap.size + 1 + 1) rfl HF.1) (.tmp rfl)) rfl ?_
    exact MEnd.some_ HR.out HF.2.1 HF.2.2
  · have HR : Hid (minR m zs m' ys = none) := by show _ = _; unfold minR; rw [if_neg (by rw [hok]; decide)]
    have HOK := Lib.hid hok
    clear hok
    go_enter Try.func18, Try.ntmps18
    go_wp2_with fail
    refine (l2Two_is m m' A A' cap cap' zs ys _ _ (ints_al (ints_al (ints_al hz _) _) _) (ints_al (ints_al (ints_al hy _) _) _) HOK.out).mono ?_
    rintro e w1 ⟨rfl, hb1⟩
    have HB := Lib.hid (below_on (below_a3 w _ _ _) hb1)
    have rA : Blk w1 (w.heap.size + 1 + 1) 25 #[.int .i64 0, .slice none 0 0] := (blk_new (by simp)).below hb1 (by simp)
    obtain ⟨c0, c1⟩ := two_cells rA
    obtain ⟨f0, f1⟩ := two_frozen rA
    have RA := Lib.hid rA
    clear hb1 rA
    go_wp2_with fail
    refine bodyPost_ret (results_2 rfl (gives_mat (g := w.heap.size + 1 + 1) rfl ((RA.out.set_ 0 _).set_ 1 _)) (.tmp rfl)) rfl ?_
    exact MEnd.none_ HR.out ((HB.out.setCell (p := ⟨_, 0, none⟩) (by simp; omega) _).setCell (p := ⟨_, 1, none⟩) (by simp; omega) _)
end Go.Proofs.Ytidahhfpnhmkgab
