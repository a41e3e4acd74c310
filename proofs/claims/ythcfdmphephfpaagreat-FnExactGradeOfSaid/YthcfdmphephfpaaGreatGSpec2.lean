/- GradesOf and MulGrades as the model has them: each the plain function of its numbers, in new memory; nothing that was there changes. -/
import Derived.Test.YthcfdmphephfpaaGreatGSpec
namespace Go.Proofs.YthcfdmphephfpaaGreat
open Go.RowKit
set_option maxHeartbeats 2000000
set_option maxRecDepth 100000
set_option linter.unusedVariables false

theorem l6Grades_any (N p : Nat) (A : Option Addr) (cap : Nat) (zs : List Int) (w : World) (p1 : p ≤ 16) (HLP : Hid (zs.length = p)) (hz : Ints w w.heap.size A zs) :
    Calls Tryz.prog 40 #[.agg #[.int .i64 N, .slice A p cap]] w fun e w' => ∃ v, e = .returned v ∧ MatOwn w' w.heap.size v N (grL zs) ∧ Below w.heap.size w w' := by
  go_enter Tryz.func40, Tryz.ntmps40
  go_wp2_with fail
  obtain ⟨w2, hw2⟩ : ∃ w2, w2 = ((w.alloc (.cells #[.int .i64 N, .slice A p cap] 28)).alloc (.cells #[.int .i64 0, .slice none 0 0] 28)).alloc (.cells #[.int .i64 N, .slice none 0 0] 28) := ⟨_, rfl⟩
  have r2 : Blk w2 (w.heap.size + 1) 28 #[.int .i64 0, .slice none 0 0] := by rw [hw2]; exact (blk_new (by simp)).alloc _
  have v2 : Blk w2 (w.heap.size + 1 + 1) 28 #[.int .i64 N, .slice none 0 0] := by rw [hw2]; exact blk_new (by simp)
  have b2 : Below w.heap.size w w2 := by rw [hw2]; exact below_a3 _ _ _ _
  rw [← hw2]
  have R2 := Lib.hid r2
  have V2 := Lib.hid v2
  have B2 := Lib.hid b2
  have HZ1 := Lib.hid (hz.below b2)
  have hs2 : w.heap.size + 1 + 1 < w2.heap.size := Blk.lt v2
  have HL : Hid ((grL zs).length = p) := by show _ = _; rw [grL_len]; exact HLP.out
  obtain ⟨i0, hi, hz0, hz1, hz2⟩ := info_parts info_int
  have Z0 := Lib.hid hz0
  have Z1 := Lib.hid hz1
  have Z2 := Lib.hid hz2
  have ZI := Lib.hid hi
  clear hw2 r2 v2 b2 hz0 hz1 hz2 hi hz
  go_loopw [12] (fun i wr => ∃ (k : Nat) (Ao : Option Addr) (capo : Nat), k ≤ p ∧ i = .int .i64 k ∧ Hid (Blk wr (w.heap.size + 1 + 1) 28 #[.int .i64 N, .slice Ao k capo]) ∧ Hid (wr.ownsRow w2.heap.size 3 1 (.slice Ao k capo) k (((grL zs).take k).map (Value.int .i64))) ∧ Hid (w2.grownBy wr (some (w.heap.size + 1 + 1)))) (fun i _ => p - (intOf i).toNat)
  case atStart => exact ⟨0, none, 0, Nat.zero_le _, rfl, V2, World.ownsRow_nil _ _ _ _, World.grownBy.refl _ _⟩
  case round =>
    obtain ⟨k, Ao, capo, hk, rfl, hv, hown, hg2⟩ := hrel
    by_cases hlt : k < p
    · obtain ⟨c0, c1⟩ := two_cells hv.out
      have hzr := ints_grown HZ1.out hg2.out (by omega) B2.out.size
      obtain ⟨b, off, z, rfl, _, hc, hd, hgz⟩ := hzr.at_ (k := k) (by have := HLP.out; omega)
      have i0' : (0 : Int) ≤ (k : Int) := by omega
      have i1 : (k : Int) < (p : Int) := by omega
      clear hd hzr
      by_cases h0 : z = 0
      · have HGR : Hid (gr z = 0) := by show _ = _; rw [h0]; rfl
        have hb0 : (z == 0) = true := by rw [beq_iff_eq]; exact h0
        clear h0
        have HZ : Hid ((grL zs).getD k 0 = 0) := by show _ = _; rw [grL_at (by have := HLP.out; omega), hgz]; exact HGR.out
        clear hgz
        go_wp2_with (at_builtin; refine wpList_append_own _ rfl _ _ 22 rfl w2.heap.size 3 i0 (.int .i64 0) 1 8 Tryz.underlying22 ZI.out Z0.out Z1.out Z2.out rfl (by decide) _ _ _ rfl (hown.out.alloc _) ⟨_, 0, none⟩ 1 1 [.int .i64 0] rfl rfl ?c1 ?c2 ?c3 ?c4 ?c5 ?_)
        case c1 => exact lit_cell wr 0 _ _
        case c2 => intro u hu; simp at hu; subst hu; rfl
        case c3 => unfold maxLen; omega
        case c4 => omega
        case c5 => have := hg2.out.size; simp; omega
        · intro v' w5 hown' hgrow _
          have hrow : ∀ j, (Value.slice Ao k capo).ownBlock = some j → w2.heap.size ≤ j := fun j hj => (hown.out.lt j hj).1
          have G5 := Lib.hid (app_grown (m := 0) hg2.out hgrow hrow)
          have V5 := Lib.hid (app_blk (m := 0) hv.out hgrow hs2 hrow)
          have hl1 : (((grL zs).take k) ++ [0]).length = k + 1 := by have := HL.out; simp; omega
          have hown5 := own_cast hown' hl1.symm (show _ = (((grL zs).take k) ++ [0]).map (Value.int .i64) by rw [← List.map_take, int_snoc])
          obtain ⟨A5, cap5, rfl⟩ := slice_own hown5 (by rw [hl1]; unfold maxLen; omega)
          have hown6 := own_cast hown' rfl (show _ = (((grL zs).take (k + 1)).map (Value.int .i64)) by rw [← List.map_take, take_snoc (by have := HL.out; omega) HZ.out, int_snoc])
          rw [hl1] at hown6 ⊢
          obtain ⟨e0, e1⟩ := two_cells V5.out
          obtain ⟨f0, f1⟩ := two_frozen V5.out
          have V6 := Lib.hid (V5.out.set_ 1 (.slice A5 (k + 1) cap5))
          have O6 := Lib.hid (own_far hown6 (grow_set w5 (w.heap.size + 1 + 1) 1 (.slice A5 (k + 1) cap5)) hs2)
          have G6 := Lib.hid (grow_trans G5.out (grow_set w5 (w.heap.size + 1 + 1) 1 (.slice A5 (k + 1) cap5)))
          clear hown' hgrow hown5 hown6 hrow c0 c1
          go_wp2_with fail
          go_roundw
          case rel => exact ⟨k + 1, A5, cap5, by omega, by go_num, V6.out, O6.out, G6.out⟩
          case measure => simp [intOf]; omega
      · by_cases h1 : z = 1000000
        · have HGR : Hid (gr z = 3) := by show _ = _; rw [h1]; rfl
          have hb0 : (z == 0) = false := by rw [beq_eq_false_iff_ne]; exact h0
          have hb1 : (z == 1000000) = true := by rw [beq_iff_eq]; exact h1
          clear h0 h1
          have HZ : Hid ((grL zs).getD k 0 = 3) := by show _ = _; rw [grL_at (by have := HLP.out; omega), hgz]; exact HGR.out
          clear hgz
          go_wp2_with (at_builtin; refine wpList_append_own _ rfl _ _ 22 rfl w2.heap.size 3 i0 (.int .i64 0) 1 8 Tryz.underlying22 ZI.out Z0.out Z1.out Z2.out rfl (by decide) _ _ _ rfl (hown.out.alloc _) ⟨_, 0, none⟩ 1 1 [.int .i64 3] rfl rfl ?c1 ?c2 ?c3 ?c4 ?c5 ?_)
          case c1 => exact lit_cell wr 0 _ _
          case c2 => intro u hu; simp at hu; subst hu; rfl
          case c3 => unfold maxLen; omega
          case c4 => omega
          case c5 => have := hg2.out.size; simp; omega
          · intro v' w5 hown' hgrow _
            have hrow : ∀ j, (Value.slice Ao k capo).ownBlock = some j → w2.heap.size ≤ j := fun j hj => (hown.out.lt j hj).1
            have G5 := Lib.hid (app_grown (m := 0) hg2.out hgrow hrow)
            have V5 := Lib.hid (app_blk (m := 0) hv.out hgrow hs2 hrow)
            have hl1 : (((grL zs).take k) ++ [3]).length = k + 1 := by have := HL.out; simp; omega
            have hown5 := own_cast hown' hl1.symm (show _ = (((grL zs).take k) ++ [3]).map (Value.int .i64) by rw [← List.map_take, int_snoc])
            obtain ⟨A5, cap5, rfl⟩ := slice_own hown5 (by rw [hl1]; unfold maxLen; omega)
            have hown6 := own_cast hown' rfl (show _ = (((grL zs).take (k + 1)).map (Value.int .i64)) by rw [← List.map_take, take_snoc (by have := HL.out; omega) HZ.out, int_snoc])
            rw [hl1] at hown6 ⊢
            obtain ⟨e0, e1⟩ := two_cells V5.out
            obtain ⟨f0, f1⟩ := two_frozen V5.out
            have V6 := Lib.hid (V5.out.set_ 1 (.slice A5 (k + 1) cap5))
            have O6 := Lib.hid (own_far hown6 (grow_set w5 (w.heap.size + 1 + 1) 1 (.slice A5 (k + 1) cap5)) hs2)
            have G6 := Lib.hid (grow_trans G5.out (grow_set w5 (w.heap.size + 1 + 1) 1 (.slice A5 (k + 1) cap5)))
            clear hown' hgrow hown5 hown6 hrow c0 c1
            go_wp2_with fail
            go_roundw
            case rel => exact ⟨k + 1, A5, cap5, by omega, by go_num, V6.out, O6.out, G6.out⟩
            case measure => simp [intOf]; omega
        · have HGR : Hid (gr z = 1) := by show _ = _; unfold gr; rw [if_neg h0, if_neg h1]
          have hb0 : (z == 0) = false := by rw [beq_eq_false_iff_ne]; exact h0
          have hb1 : (z == 1000000) = false := by rw [beq_eq_false_iff_ne]; exact h1
          clear h0 h1
          have HZ : Hid ((grL zs).getD k 0 = 1) := by show _ = _; rw [grL_at (by have := HLP.out; omega), hgz]; exact HGR.out
          clear hgz
          go_wp2_with (at_builtin; refine wpList_append_own _ rfl _ _ 22 rfl w2.heap.size 3 i0 (.int .i64 0) 1 8 Tryz.underlying22 ZI.out Z0.out Z1.out Z2.out rfl (by decide) _ _ _ rfl (hown.out.alloc _) ⟨_, 0, none⟩ 1 1 [.int .i64 1] rfl rfl ?c1 ?c2 ?c3 ?c4 ?c5 ?_)
          case c1 => exact lit_cell wr 0 _ _
          case c2 => intro u hu; simp at hu; subst hu; rfl
          case c3 => unfold maxLen; omega
          case c4 => omega
          case c5 => have := hg2.out.size; simp; omega
          · intro v' w5 hown' hgrow _
            have hrow : ∀ j, (Value.slice Ao k capo).ownBlock = some j → w2.heap.size ≤ j := fun j hj => (hown.out.lt j hj).1
            have G5 := Lib.hid (app_grown (m := 0) hg2.out hgrow hrow)
            have V5 := Lib.hid (app_blk (m := 0) hv.out hgrow hs2 hrow)
            have hl1 : (((grL zs).take k) ++ [1]).length = k + 1 := by have := HL.out; simp; omega
            have hown5 := own_cast hown' hl1.symm (show _ = (((grL zs).take k) ++ [1]).map (Value.int .i64) by rw [← List.map_take, int_snoc])
            obtain ⟨A5, cap5, rfl⟩ := slice_own hown5 (by rw [hl1]; unfold maxLen; omega)
            have hown6 := own_cast hown' rfl (show _ = (((grL zs).take (k + 1)).map (Value.int .i64)) by rw [← List.map_take, take_snoc (by have := HL.out; omega) HZ.out, int_snoc])
            rw [hl1] at hown6 ⊢
            obtain ⟨e0, e1⟩ := two_cells V5.out
            obtain ⟨f0, f1⟩ := two_frozen V5.out
            have V6 := Lib.hid (V5.out.set_ 1 (.slice A5 (k + 1) cap5))
            have O6 := Lib.hid (own_far hown6 (grow_set w5 (w.heap.size + 1 + 1) 1 (.slice A5 (k + 1) cap5)) hs2)
            have G6 := Lib.hid (grow_trans G5.out (grow_set w5 (w.heap.size + 1 + 1) 1 (.slice A5 (k + 1) cap5)))
            clear hown' hgrow hown5 hown6 hrow c0 c1
            go_wp2_with fail
            go_roundw
            case rel => exact ⟨k + 1, A5, cap5, by omega, by go_num, V6.out, O6.out, G6.out⟩
            case measure => simp [intOf]; omega
    · have hrr := R2.out.grown hg2.out (by omega)
      obtain ⟨a0, a1⟩ := two_cells hv.out
      obtain ⟨d0, d1⟩ := two_cells hrr
      obtain ⟨f0, f1⟩ := two_frozen hrr
      have hkp : k = p := by omega
      have HO : Hid (wr.ownsRow w2.heap.size 3 1 (.slice Ao k capo) k ((grL zs).map (Value.int .i64))) := by
        have h := hown.out
        rw [List.take_of_length_le (by have := HL.out; omega)] at h
        exact h
      have RR := Lib.hid hrr
      have HB := Lib.hid (B2.out.grown hg2.out B2.out.size (fun j hj => by cases hj; omega))
      have HK : Hid ((grL zs).length = k) := HL.out.trans hkp.symm
      clear hrr hkp
      go_wp2_with fail
      have HF := mat_fin_n (w := w) (m := (N : Int)) HK.out RR.out HO.out (by omega) (by omega) HB.out (by have := HL.out; omega)
      refine bodyPost_ret (results_1 rfl (gives_mat (g := w.heap.size + 1) rfl HF.1)) rfl ?_
      exact ⟨_, rfl, HF.2.1, HF.2.2⟩

end Go.Proofs.YthcfdmphephfpaaGreat
