/- The program's machine as an automaton: new slices of the call's own. Conditions: as for its steps. -/
import Derived.Test.YtdfnlaclggjckaaSortW
import Derived.Test.YtdfnlaclggjckaaCopyM
namespace Go.Proofs.Ytdfnlaclggjckaa
open Go.RowKit
set_option maxHeartbeats 4000000
set_option maxRecDepth 100000
set_option linter.unusedVariables false

theorem automaton_any (n M cnt : Nat) (b0 b1 b2 b3 b4 b5 b6 b7 : Bool) (F : FF) (w : World) (hM : CMap w M cnt F) (hc : cnt ≤ 1000) (hF : ∀ f l t c, kwf f l t → F f l t = some c → mvOk ⟨f, l, t, c⟩) :
    Calls Try.prog 79 #[.agg #[.int .i64 n, .bool b0, .bool b1, .bool b2, .bool b3, .bool b4, .bool b5, .bool b6, .bool b7, .map (some M)]] w fun e w' => ∃ x1 x2 x3 us, e = .returned (.agg #[.int .i64 n, x1, x2, x3]) ∧ Hid (AOwn w' w.heap.size x1 x2 x3 (selB (bAt b0 b1 b2 b3) 4) (selB (bAt b4 b5 b6 b7) 4) us) ∧ us.length ≤ cnt ∧ us.Pairwise (fun a b => code a < code b) ∧ (∀ s, s ∈ us ↔ mvOk s ∧ F s.fr s.le s.to_ = some s.co) ∧ Hid (Below w.heap.size w w') := by
  have MM := Lib.hid hM
  have HF := Lib.hid hF
  have hMw := hM.lt
  clear hM hF
  go_enter Try.func79, Try.ntmps79
  go_upto_region 1 with fail
  obtain ⟨A, hA⟩ : ∃ A, A = w.heap.size := ⟨_, rfl⟩
  obtain ⟨R, hR⟩ : ∃ R, R = w.heap.size + 1 := ⟨_, rfl⟩
  obtain ⟨w1, hw1⟩ : ∃ w1, w1 = (w.alloc (.cells #[.int .i64 n, .bool b0, .bool b1, .bool b2, .bool b3, .bool b4, .bool b5, .bool b6, .bool b7, .map (some M)] 58)).alloc (.cells #[.int .i64 0, .slice none 0 0, .slice none 0 0, .slice none 0 0] 29) := ⟨_, rfl⟩
  have A1 : Hid (Blk w1 A 58 #[.int .i64 n, .bool b0, .bool b1, .bool b2, .bool b3, .bool b4, .bool b5, .bool b6, .bool b7, .map (some M)]) := by rw [hw1, hA]; exact (Blk.new _ _ _).alloc _
  have R1 : Hid (Blk w1 R 29 #[.int .i64 0, .slice none 0 0, .slice none 0 0, .slice none 0 0]) := by rw [hw1, hR]; exact blk_new (by simp)
  have B1 : Hid (Below w.heap.size w w1) := by rw [hw1]; exact below_a2 w _ _
  have hs1 : w1.heap.size = R + 1 := by rw [hw1, hR]; simp
  rw [← hw1, ← hR, ← hA]
  have hAR : A < R := by omega
  have hwA : w.heap.size ≤ A := by omega
  have hR1 : R < w1.heap.size := by omega
  have hw1s : w.heap.size ≤ w1.heap.size := by omega
  clear hw1 hA hR hs1
  have KK : Hid (∀ w', Below w1.heap.size w1 w' → (Hid (Below w1.heap.size w1 w') ∧ w'.cell? ⟨A, 0, none⟩ = some (.int .i64 n) ∧ w'.cell? ⟨A, 1, none⟩ = some (.bool b0) ∧ w'.cell? ⟨A, 2, none⟩ = some (.bool b1) ∧ w'.cell? ⟨A, 3, none⟩ = some (.bool b2) ∧ w'.cell? ⟨A, 4, none⟩ = some (.bool b3) ∧ w'.cell? ⟨A, 5, none⟩ = some (.bool b4) ∧ w'.cell? ⟨A, 6, none⟩ = some (.bool b5) ∧ w'.cell? ⟨A, 7, none⟩ = some (.bool b6) ∧ w'.cell? ⟨A, 8, none⟩ = some (.bool b7) ∧ w'.cell? ⟨A, 9, none⟩ = some (.map (some M)))) := fun w' h => by
    have a := blk_b A1.out h
    exact ⟨h, a.cell 0, a.cell 1, a.cell 2, a.cell 3, a.cell 4, a.cell 5, a.cell 6, a.cell 7, a.cell 8, a.cell 9⟩
  have hS0 := KK.out w1.drew ((Below.refl _ _).drew)
  refine wp_region_Z (S := fun w' => Hid (Below w1.heap.size w1 w') ∧ w'.cell? ⟨A, 0, none⟩ = some (.int .i64 n) ∧ w'.cell? ⟨A, 1, none⟩ = some (.bool b0) ∧ w'.cell? ⟨A, 2, none⟩ = some (.bool b1) ∧ w'.cell? ⟨A, 3, none⟩ = some (.bool b2) ∧ w'.cell? ⟨A, 4, none⟩ = some (.bool b3) ∧ w'.cell? ⟨A, 5, none⟩ = some (.bool b4) ∧ w'.cell? ⟨A, 6, none⟩ = some (.bool b5) ∧ w'.cell? ⟨A, 7, none⟩ = some (.bool b6) ∧ w'.cell? ⟨A, 8, none⟩ = some (.bool b7) ∧ w'.cell? ⟨A, 9, none⟩ = some (.map (some M))) (by kernel_rfl) hS0 (fun hS => ?_)
  clear hS0
  refine wpAnyZ_take (i := 0) (v := ?vm0) rfl (by kernel_rfl) (by kernel_rfl) (by kernel_rfl) (by kernel_rfl) (fun _ _ _ h => h) (Or.inl ⟨by rfl, ?ym0⟩) (by with_reducible assumption) ?rm0
  case ym0 => (intro w hSw; (try dsimp only at hSw); go_simp; (try with_reducible rfl))
  simp only [Act.put, List.setIfInBounds_toArray]
  refine wpAnyZ_take (i := 1) (v := ?vm1) rfl (by kernel_rfl) (by kernel_rfl) (by kernel_rfl) (by kernel_rfl) (fun _ _ _ h => h) (Or.inl ⟨by rfl, ?ym1⟩) (by with_reducible assumption) ?rm1
  case ym1 => (intro w hSw; (try dsimp only at hSw); go_simp; (try with_reducible rfl))
  simp only [Act.put]
  refine wpAnyZ_take (i := 2) (v := ?vm2) rfl (by kernel_rfl) (by kernel_rfl) (by kernel_rfl) (by kernel_rfl) (fun _ _ _ h => h) (Or.inl ⟨by rfl, ?ym2⟩) (by with_reducible assumption) ?rm2
  case ym2 => (intro w hSw; (try dsimp only at hSw); go_simp; (try with_reducible rfl))
  simp only [Act.put]
  refine wpAnyZ_take (i := 3) (v := ?vm3) rfl (by kernel_rfl) (by kernel_rfl) (by kernel_rfl) (by kernel_rfl) (fun _ _ _ h => h) (Or.inl ⟨by rfl, ?ym3⟩) (by with_reducible assumption) ?rm3
  case ym3 => (intro w hSw; (try dsimp only at hSw); go_simp; (try with_reducible rfl))
  simp only [Act.put]
  refine wpAnyZ_take (i := 5) (v := ?vm5) rfl (by kernel_rfl) (by kernel_rfl) (by kernel_rfl) (by kernel_rfl) (fun _ _ _ h => h) (Or.inl ⟨by rfl, ?ym5⟩) (by with_reducible assumption) ?rm5
  case ym5 => (intro w hSw; (try dsimp only at hSw); go_simp; (try with_reducible rfl))
  simp only [Act.put]
  refine wpAnyZ_take (i := 6) (v := ?vm6) rfl (by kernel_rfl) (by kernel_rfl) (by kernel_rfl) (by kernel_rfl) (fun _ _ _ h => h) (Or.inl ⟨by rfl, ?ym6⟩) (by with_reducible assumption) ?rm6
  case ym6 => (intro w hSw; (try dsimp only at hSw); go_simp; (try with_reducible rfl))
  simp only [Act.put]
  refine wpAnyZ_take (i := 8) (v := ?vm8) rfl (by kernel_rfl) (by kernel_rfl) (by kernel_rfl) (by kernel_rfl) (fun _ _ _ h => h) (Or.inl ⟨by rfl, ?ym8⟩) (by with_reducible assumption) ?rm8
  case ym8 => (intro w hSw; (try dsimp only at hSw); go_simp; (try with_reducible rfl))
  simp only [Act.put]
  refine wpAnyZ_step (i := 4) (by kernel_rfl) rfl (fun K1 hK1 => ?_)
  go_simp
  refine (list_any b0 b1 b2 b3 _).mono ?_
  rintro e x1w ⟨x1, rfl, ho1, hb1⟩
  have Bx1 := Lib.hid (below_on (Below.refl _ _).drew hb1.out)
  have O1 := ho1
  refine hK1.out _ _ (KK.out _ Bx1.out) (fun hS1 => ?_)
  clear hK1 hb1
  refine wpAnyZ_step (i := 7) (by kernel_rfl) rfl (fun K2 hK2 => ?_)
  go_simp
  refine (list_any b4 b5 b6 b7 _).mono ?_
  rintro e x2w ⟨x2, rfl, ho2, hb2⟩
  have Bx2 := Lib.hid (below_on Bx1.out hb2.out)
  have H2 := hb2
  refine hK2.out _ _ (KK.out _ Bx2.out) (fun hS2 => ?_)
  clear hK2
  refine wpAnyZ_step (i := 9) (by kernel_rfl) rfl (fun K3 hK3 => ?_)
  go_simp
  refine (steps_any n M cnt b0 b1 b2 b3 b4 b5 b6 b7 F _ (MM.out.below ((below_on B1.out Bx2.out).mono (by omega))) hc HF.out).mono ?_
  rintro e x3w ⟨x3, us, rfl, ho3, hlen, hpw, hmem, hb3⟩
  have Bx3 := Lib.hid (below_on Bx2.out hb3.out)
  refine hK3.out _ _ (KK.out _ Bx3.out) (fun hS3 => ?_)
  clear hK3
  obtain ⟨⟨A1', c1', rfl, _, i1⟩, ⟨A2', c2', rfl, _, i2⟩⟩ := And.intro (own_ints ho1.out (by have := selB_len (bAt b0 b1 b2 b3) 4; unfold maxLen; omega)) (own_ints ho2.out (by have := selB_len (bAt b4 b5 b6 b7) 4; unfold maxLen; omega))
  have hsz : ∀ s ∈ us, s.le.size ≤ 9223372036854775807 := fun s hs => by
    have h := ((hmem s).1 hs).1.2.2.2.2
    rcases h with h | h <;> rw [h] <;> decide
  obtain ⟨A3', c3', rfl, _⟩ := own_read4 ho3.out rfl (by omega) hsz
  have R3 := Lib.hid (blk_b R1.out (show Below w1.heap.size w1 _ from hS3.1.out))
  obtain ⟨f0, f1, f2, f3⟩ := four_frozen R3.out
  obtain ⟨r0, r1, r2, r3⟩ := four_cells R3.out
  have HZ := Lib.hid hsz
  have HO1 := ho1
  have HO2 := ho2
  have HO3 := ho3
  have HM := Lib.hid hmem
  have B3 := Lib.hid (below_on B1.out Bx3.out)
  clear i1 i2 hsz ho1 ho2 ho3 hmem
  refine wpAnyZ_take (i := 10) (v := ?vm10) rfl (by kernel_rfl) (by kernel_rfl) (by kernel_rfl) (by kernel_rfl) (fun _ _ _ h => h) (Or.inl ⟨by rfl, ?ym10⟩) (by with_reducible assumption) ?rm10
  case ym10 => (intro w hSw; (try dsimp only at hSw); go_simp; (try with_reducible rfl))
  simp only [Act.put]
  refine wpAnyZ_last (i := 11) (by kernel_rfl) rfl (by kernel_rfl) (fun K4 hK4 => ?_)
  go_simp
  refine hK4.out _ _ ?_
  clear hK4 hS1 hS2 hS3 f0 f1 f2 f3 r0 r1 r2 r3
  go_wp2_with fail
  have HF := four_set R3.out (.int .i64 n) (.slice A1' (selB (bAt b0 b1 b2 b3) 4).length c1') (.slice A2' (selB (bAt b4 b5 b6 b7) 4).length c2') (.slice A3' us.length c3')
  have HG := four_grow x3w R (.int .i64 n) (.slice A1' (selB (bAt b0 b1 b2 b3) 4).length c1') (.slice A2' (selB (bAt b4 b5 b6 b7) 4).length c2') (.slice A3' us.length c3')
  refine bodyPost_ret (results_1 rfl (Gives.row (g := R) rfl HF Try.underlying29 rfl (by kernel_rfl))) rfl ?_
  have s1 := Bx1.out.size
  have s2 := H2.out.size
  have s3 := hb3.out.size
  have s0 : w1.heap.size ≤ w1.drew.heap.size := Nat.le_refl _
  have d1 : ∀ j, (Value.slice A1' (selB (bAt b0 b1 b2 b3) 4).length c1').ownBlock = some j → w1.heap.size ≤ j ∧ j < x1w.heap.size := fun j hj => HO1.out.lt j hj
  have d2 : ∀ j, (Value.slice A2' (selB (bAt b4 b5 b6 b7) 4).length c2').ownBlock = some j → x1w.heap.size ≤ j := fun j hj => (HO2.out.lt j hj).1
  have d3 : ∀ j, (Value.slice A3' us.length c3').ownBlock = some j → x2w.heap.size ≤ j := fun j hj => (HO3.out.lt j hj).1
  have P1 := own_under (own_under HO1.out H2.out) hb3.out
  have P2 := own_under HO2.out hb3.out
  have Q1 := P1.kept HG (own_ne (fun j hj e => by cases e; have := (d1 _ hj).1; omega))
  have Q2 := P2.kept HG (own_ne (fun j hj e => by cases e; have := d2 _ hj; omega))
  have Q3 := HO3.out.kept HG (own_ne (fun j hj e => by cases e; have := d3 _ hj; omega))
  refine ⟨_, _, _, us, rfl, ⟨own_base Q1 (by omega), own_base Q2 (by omega), own4_base Q3 (by omega), own_ne (fun j hj e => by have := (d1 _ hj).2; have := d2 _ e; omega), ?_, ?_, by omega, HZ.out⟩, hlen, hpw, HM.out, B3.out.grown HG (by omega) (fun j hj => by cases hj; omega)⟩
  · have := selB_len (bAt b0 b1 b2 b3) 4; omega
  · have := selB_len (bAt b4 b5 b6 b7) 4; omega
end Go.Proofs.Ytdfnlaclggjckaa
