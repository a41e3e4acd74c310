/- Lesser squares, turned ones, units: each the plain function of its numbers, in new memory; nothing that was there changes. -/
import Derived.Test.YtidahhfpnhmkgabSq2
namespace Go.Proofs.Ytidahhfpnhmkgab
open Go.RowKit
set_option maxHeartbeats 1000000
set_option linter.unusedVariables false

theorem grow_drew (w : World) (r : Option Nat) : w.grownBy w.drew r := ⟨rfl, rfl, rfl, Nat.le_refl _, fun _ _ _ => rfl⟩
theorem ringMin_any (a b : Int) (w : World) :
    Calls Try.prog 66 #[.int .i64 a, .int .i64 b] w fun e w' => e = .returned (.int .i64 (min a b)) ∧ w = w' := by
  go_enter Try.func66, Try.ntmps66
  go_wp2
  all_goals
    go_ret
    exact ⟨ret_int (by omega), rfl⟩

theorem lesser_any (n p g h : Nat) (zs ys : List Int) (w : World) (n1 : 1 ≤ n) (n2 : n ≤ 4) (hp : Hid (p = n * n)) (hz : Hid (zs.length = p)) (hy : Hid (ys.length = p)) (p1 : p ≤ 16) (hq : Sq w g zs) (hr : Sq w h ys) :
    Calls Try.prog 44 #[sqV n (.slice (some ⟨g, 0, none⟩) p p), sqV n (.slice (some ⟨h, 0, none⟩) p p)] w fun e w' => ∃ g', e = .returned (sqV n (.slice (some ⟨g', 0, none⟩) p p)) ∧ Below w.heap.size w w' ∧ w.heap.size ≤ g' ∧ Sq w' g' (minL n zs ys) := by
  unfold sqV
  go_enter Try.func44, Try.ntmps44
  go_wp2_with fail
  refine (newSquare_any n p _ n1 n2 hp.out).mono ?_
  rintro e w1 ⟨g', rfl, hb1, hg1, hsq⟩
  unfold sqV
  have sA : Blk w1 w.heap.size 55 (sqC n (.slice (some ⟨g, 0, none⟩) p p)) := (((Blk.new w _ _).alloc _).alloc _).below hb1 (by simp; omega)
  have tA : Blk w1 (w.heap.size + 1) 55 (sqC n (.slice (some ⟨h, 0, none⟩) p p)) := ((blk_new (by simp)).alloc _).below hb1 (by simp)
  have rA : Blk w1 (w.heap.size + 1 + 1) 55 #[.nilFunc, .int .i64 0, .nilFunc, .int .i64 0, .int .i64 0, .slice none 0 0] := (blk_new (by simp)).below hb1 (by simp)
  have hgr : w.heap.size + 1 + 1 < g' := by simp at hg1; omega
  have hb0 := below_on (below_a3 w _ _ _) hb1
  have hgw := Blk.lt hq
  have hhw := Blk.lt hr
  have qA := hq.below hb0
  have uA := hr.below hb0
  clear hb1 hg1
  go_wp2_with fail
  obtain ⟨w2, hw2⟩ : ∃ w2, w2 = w1.alloc (.cells (sqC n (.slice (some ⟨g', 0, none⟩) p p)) 55) := ⟨_, rfl⟩
  have v2 : Blk w2 w1.heap.size 55 (sqC n (.slice (some ⟨g', 0, none⟩) p p)) := by rw [hw2]; exact Blk.new _ _ _
  have r2 : Blk w2 (w.heap.size + 1 + 1) 55 #[.nilFunc, .int .i64 0, .nilFunc, .int .i64 0, .int .i64 0, .slice none 0 0] := by rw [hw2]; exact rA.alloc _
  have s2 : Blk w2 w.heap.size 55 (sqC n (.slice (some ⟨g, 0, none⟩) p p)) := by rw [hw2]; exact sA.alloc _
  have t2 : Blk w2 (w.heap.size + 1) 55 (sqC n (.slice (some ⟨h, 0, none⟩) p p)) := by rw [hw2]; exact tA.alloc _
  have q2 : Sq w2 g' (List.replicate p 0) := by rw [hw2]; exact Blk.alloc hsq _
  have z2 : Sq w2 g zs := by rw [hw2]; exact Blk.alloc qA _
  have y2 : Sq w2 h ys := by rw [hw2]; exact Blk.alloc uA _
  have b2 : Below w.heap.size w w2 := by rw [hw2]; exact hb0.alloc hb0.size _
  have hgs : ¬ w1.heap.size = g' := by have := Blk.lt hsq; omega
  unfold sqC at hw2
  rw [← hw2]
  obtain ⟨S, hS⟩ : ∃ S, S = w1.heap.size := ⟨_, rfl⟩
  rw [← hS] at v2 hgs
  rw [← hS]
  have V2 := Lib.hid v2
  have R2 := Lib.hid r2
  have S2 := Lib.hid s2
  have T2 := Lib.hid t2
  have Q2 := Lib.hid q2
  have Z2 := Lib.hid z2
  have Y2 := Lib.hid y2
  have B2 := Lib.hid b2
  have HM : Hid (∀ k, k < p → (minL n zs ys).getD k 0 = min (zs.getD k 0) (ys.getD k 0)) := by
    intro k hk
    have hk' : k < n * n := by rw [← hp.out]; exact hk
    unfold minL
    rw [ofF_getD _ hk']
    show min (zs.getD (k / n * n + k % n) 0) (ys.getD (k / n * n + k % n) 0) = _
    rw [Nat.mul_comm, Nat.div_add_mod]
  have HL : Hid ((minL n zs ys).length = p) := by show _ = _; unfold minL; rw [ofF_len, hp.out]
  clear hw2 hS v2 r2 s2 t2 q2 z2 y2 b2 sA tA rA hsq hb0 qA uA hq hr
  go_loopw [15] (fun i wr => ∃ (k : Nat) (cs : List Int), k ≤ p ∧ i = .int .i64 k ∧ Hid (cs.length = p) ∧ Hid (cs.take k = (minL n zs ys).take k) ∧ Hid (Sq wr g' cs) ∧ Hid (w2.grownBy wr (some g'))) (fun i _ => p - (intOf i).toNat)
  case atStart => exact ⟨0, List.replicate p 0, Nat.zero_le _, rfl, List.length_replicate, rfl, Q2, World.grownBy.refl _ _⟩
  case round =>
    obtain ⟨k, cs, hk, rfl, hcl, htk, hsq, hg2⟩ := hrel
    by_cases hlt : k < p
    · have keep : ∀ w', wr.grownBy w' (some g') → (Hid (wr.grownBy w' (some g')) ∧ w'.cell? ⟨w.heap.size, 2, none⟩ = some (.func (.func 66) #[] #[]) ∧ w'.cell? ⟨w.heap.size, 5, none⟩ = some (.slice (some ⟨g, 0, none⟩) p p) ∧ w'.cell? ⟨w.heap.size + 1, 5, none⟩ = some (.slice (some ⟨h, 0, none⟩) p p) ∧ w'.cell? ⟨S, 5, none⟩ = some (.slice (some ⟨g', 0, none⟩) p p) ∧ w'.cell? ⟨g, k, none⟩ = some (.int .i64 (zs.getD k 0)) ∧ w'.cell? ⟨h, k, none⟩ = some (.int .i64 (ys.getD k 0))) := by
        intro w' hw'
        have G := grow_trans hg2.out hw'
        exact ⟨hw', (S2.out.grown G (by omega)).cell 2, (S2.out.grown G (by omega)).cell 5, (T2.out.grown G (by omega)).cell 5, (V2.out.grown G hgs).cell 5, Nm.at_ (Blk.grown Z2.out G (by omega)) (by have := hz.out; omega), Nm.at_ (Blk.grown Y2.out G (by omega)) (by have := hy.out; omega)⟩
      obtain ⟨a, ha⟩ : ∃ a, a = zs.getD k 0 := ⟨_, rfl⟩
      obtain ⟨b, hb⟩ : ∃ b, b = ys.getD k 0 := ⟨_, rfl⟩
      rw [← ha, ← hb] at keep
      have K := Lib.hid keep
      have hcell : wr.drew.cell? ⟨g', k, none⟩ = some (.int .i64 (cs.getD k 0)) := hsq.out.at_ (k := k) (by have := hcl.out; omega)
      have hfr : wr.drew.frozen? ⟨g', k, none⟩ = false := hsq.out.fz k
      have Q3 := Lib.hid (show Sq (wr.drew.setCell ⟨g', k, none⟩ (.int .i64 (min a b))) g' (cs.set k (min a b)) from hsq.out.set_ k (min a b))
      have G3 := Lib.hid (grow_trans hg2.out (grow_trans (grow_drew wr (some g')) (grow_set wr.drew g' k (.int .i64 (min a b)))))
      have T3 := Lib.hid (set_prefix htk.out (by have := HL.out; omega) (by have := hcl.out; have := HL.out; omega) (show (minL n zs ys).getD k 0 = min a b by rw [HM.out k hlt, ha, hb]))
      have hS0 := K.out wr.drew ⟨rfl, rfl, rfl, Nat.le_refl _, fun _ _ _ => rfl⟩
      have i0 : (0 : Int) ≤ (k : Int) := by omega
      have i1 : (k : Int) < (p : Int) := by omega
      clear keep ha hb
      go_wp2_with fail
      go_region_held3 (fun w' => Hid (wr.grownBy w' (some g')) ∧ w'.cell? ⟨w.heap.size, 2, none⟩ = some (.func (.func 66) #[] #[]) ∧ w'.cell? ⟨w.heap.size, 5, none⟩ = some (.slice (some ⟨g, 0, none⟩) p p) ∧ w'.cell? ⟨w.heap.size + 1, 5, none⟩ = some (.slice (some ⟨h, 0, none⟩) p p) ∧ w'.cell? ⟨S, 5, none⟩ = some (.slice (some ⟨g', 0, none⟩) p p) ∧ w'.cell? ⟨g, k, none⟩ = some (.int .i64 a) ∧ w'.cell? ⟨h, k, none⟩ = some (.int .i64 b)) (first | assumption | exact K.out _ (grow_trans hS0.1.out (grow_set _ _ _ _)) | skip)
        (first
          | (go_at_call 66; refine (ringMin_any _ _ _).mono ?_; rintro e w' ⟨rfl, rfl⟩))
      go_wp2_with fail
      go_roundw
      case rel => exact ⟨k + 1, cs.set k (min a b), by omega, by go_num, by show _ = _; rw [List.length_set]; exact hcl.out, T3.out, Q3.out, G3.out⟩
      case measure => simp [intOf]; omega
    · have hrr := R2.out.grown hg2.out (by omega)
      have hvr := V2.out.grown hg2.out hgs
      obtain ⟨a0, a1, a2, a3, a4, a5⟩ := six_cells (show Blk wr S 55 #[_, _, _, _, _, _] from hvr)
      obtain ⟨d0, d1, d2, d3, d4, d5⟩ := six_cells hrr
      obtain ⟨f0, f1, f2, f3, f4, f5⟩ := six_frozen hrr
      have HRR := Lib.hid hrr
      have HZS : Hid (cs = minL n zs ys) := by
        have h1 := htk.out
        have h2 := hcl.out
        have h3 := HL.out
        show _ = _
        rwa [List.take_of_length_le (by omega), List.take_of_length_le (by omega)] at h1
      clear hrr hvr
      go_wp2_with fail
      refine bodyPost_ret (results_1 rfl (Gives.row (g := w.heap.size + 1 + 1) rfl (blk_six HRR.out) Try.underlying55 rfl (by kernel_rfl))) rfl ?_
      refine ⟨g', rfl, ?_, by omega, ?_⟩
      · exact (B2.out.grown hg2.out B2.out.size (fun j hj => by cases hj; omega)).grown (grow_six _ _ _ _ _ _ _ _) (by have := hg2.out.size; have := B2.out.size; omega) (fun j hj => by cases hj; omega)
      · rw [← HZS.out]
        exact Blk.grown hsq.out (grow_six _ _ _ _ _ _ _ _) (by omega)
end Go.Proofs.Ytidahhfpnhmkgab
