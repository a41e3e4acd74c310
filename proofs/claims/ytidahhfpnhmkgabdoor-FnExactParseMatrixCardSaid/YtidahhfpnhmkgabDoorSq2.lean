/- The methods of squares of costs: a matrix of one, what a row becomes, products, lesser ones, turned ones: each the plain function of its numbers, in new memory; nothing that was there changes. -/
import Derived.Test.YtidahhfpnhmkgabDoorSq
import Derived.Laws.CopyOwn
import Derived.Deep.RegionHeld3
namespace Go.Proofs.YtidahhfpnhmkgabDoor
open Go.RowKit
set_option maxHeartbeats 1000000
set_option linter.unusedVariables false

theorem info_int' : (Tryd.prog.info? 3).map (fun i => (i.zero, i.size, i.bytes)) = some (some (.int .i64 0), 1, 8) := by kernel_rfl
theorem sq_eq (n : Nat) (x : Value) : sqC n x = #[.func (.func 64) #[] #[], .int .i64 0, .func (.func 65) #[] #[], .int .i64 1000000, .int .i64 n, x] := rfl

theorem matrix_any (n p g : Nat) (zs : List Int) (w : World) (hp : Hid (p = zs.length)) (p1 : p ≤ 16) (hq : Sq w g zs) :
    Calls Tryd.prog 45 #[sqV n (.slice (some ⟨g, 0, none⟩) p p)] w fun e w' => ∃ v, e = .returned v ∧ MatOwn w' w.heap.size v n zs ∧ Below w.heap.size w w' := by
  have hmk : ∀ w : World, (Instr.makeSlice 23 (.int .i64 (p : Int)) (.int .i64 (p : Int))).run Tryd.prog w = .ok (.slice (some ⟨w.heap.size, 0, none⟩) p p) (w.alloc (.cells (madeCells #[.int .i64 0] p) 3)) :=
    fun w => run_make_row' 23 3 (.int .i64 0) 8 Tryd.underlying23 info_int' rfl .i64 .i64 p (by omega) (by omega) w
  have hgw := Blk.lt hq
  unfold sqV
  go_enter Tryd.func45, Tryd.ntmps45
  go_wp2
  obtain ⟨w2, hw2⟩ : ∃ w2, w2 = ((w.alloc (.cells (sqC n (.slice (some ⟨g, 0, none⟩) p p)) 68)).alloc (.cells #[.int .i64 0, .slice none 0 0] 25)).alloc (.cells (madeCells #[.int .i64 0] p) 3) := ⟨_, rfl⟩
  have v2 : Blk w2 w.heap.size 68 (sqC n (.slice (some ⟨g, 0, none⟩) p p)) := by rw [hw2]; exact ((Blk.new _ _ _).alloc _).alloc _
  have r2 : Blk w2 (w.heap.size + 1) 25 #[.int .i64 0, .slice none 0 0] := by rw [hw2]; exact (blk_new (by simp)).alloc _
  have q2 : Nm w2 (w.heap.size + 1 + 1) 3 (List.replicate p 0) := by
    rw [hw2]
    show Blk _ _ _ _
    rw [← made_zero]
    exact blk_new (by simp)
  have b2 : Below w.heap.size w w2 := by rw [hw2]; exact below_a3 _ _ _ _
  have z2 : Ints w2 w.heap.size (some ⟨g, 0, none⟩) zs := by rw [hw2]; exact (hq.ints (by have := hp.out; omega)).below (below_a3 _ _ _ _)
  unfold sqC at hw2
  rw [← hw2]
  have V2 := Lib.hid v2
  have R2 := Lib.hid r2
  have Q2 := Lib.hid q2
  have B2 := Lib.hid b2
  have hs1 : w.heap.size + 1 + 1 < w2.heap.size := Blk.lt q2
  clear hw2 v2 r2 q2 b2 hmk
  go_loopw [13] (fun i wr => ∃ (k : Nat) (cs : List Int), k ≤ p ∧ i = .int .i64 k ∧ Hid (cs.length = p) ∧ Hid (cs.take k = zs.take k) ∧ Hid (Nm wr (w.heap.size + 1 + 1) 3 cs) ∧ Hid (w2.grownBy wr (some (w.heap.size + 1 + 1)))) (fun i _ => p - (intOf i).toNat)
  case atStart => exact ⟨0, List.replicate p 0, Nat.zero_le _, rfl, List.length_replicate, rfl, Q2, World.grownBy.refl _ _⟩
  case round =>
    obtain ⟨k, cs, hk, rfl, hcl, htk, hsq, hg2⟩ := hrel
    by_cases hlt : k < p
    · have hzr := ints_grown z2 hg2.out (by omega) (by omega)
      obtain ⟨b, off, z, e0, _, hc, hd, hgz⟩ := hzr.at_ (k := k) (by have := hp.out; omega)
      cases e0
      rw [Nat.zero_add] at hc
      have hcell := hsq.out.at_ (k := k) (by have := hcl.out; omega)
      have hfr := hsq.out.fz k
      have Q3 := Lib.hid (hsq.out.set_ k z)
      have G3 := Lib.hid (grow_trans hg2.out (grow_set wr (w.heap.size + 1 + 1) k (.int .i64 z)))
      have T3 := Lib.hid (set_prefix htk.out (by have := hp.out; omega) (by have := hcl.out; have := hp.out; omega) hgz)
      clear hd hgz hzr
      go_wp2_with fail
      go_roundw
      case rel => exact ⟨k + 1, cs.set k z, by omega, by go_num, by show _ = _; rw [List.length_set]; exact hcl.out, T3.out, Q3.out, G3.out⟩
      case measure => simp [intOf]; omega
    · have hvr := V2.out.grown hg2.out (by omega)
      have hrr := R2.out.grown hg2.out (by omega)
      obtain ⟨a0, a1, a2, a3, a4, a5⟩ := six_cells (show Blk wr w.heap.size 68 #[_, _, _, _, _, _] from hvr)
      have d0 := hrr.cell 0
      have d1 := hrr.cell 1
      have f0 := hrr.frozen 0
      have f1 := hrr.frozen 1
      simp at d0 d1
      have HRR := Lib.hid ((hrr.set_ 0 (.int .i64 n)).set_ 1 (.slice (some ⟨w.heap.size + 1 + 1, 0, none⟩) p p))
      have GR := Lib.hid (grow_trans (grow_set wr (w.heap.size + 1) 0 (.int .i64 n)) (grow_set _ (w.heap.size + 1) 1 (.slice (some ⟨w.heap.size + 1 + 1, 0, none⟩) p p)))
      have HZS : Hid (cs = zs) := by
        have h1 := htk.out
        have h2 := hcl.out
        have h3 := hp.out
        show _ = _
        rwa [List.take_of_length_le (by omega), List.take_of_length_le (by omega)] at h1
      clear hrr hvr
      go_wp2_with fail
      refine bodyPost_ret (results_1 rfl (gives_mat (g := w.heap.size + 1) rfl HRR.out)) rfl ?_
      refine ⟨_, rfl, ⟨_, rfl, ?_, by have := hp.out; omega⟩, ?_⟩
      · have h := Nm.own (base := w.heap.size) (show Nm _ _ _ _ from Blk.grown hsq.out GR.out (by omega)) (by omega) (by have := hcl.out; omega)
        rw [hcl.out, HZS.out] at h
        rw [← hp.out]
        exact h
      · exact (B2.out.grown hg2.out B2.out.size (fun j hj => by cases hj; omega)).grown GR.out (by have := hg2.out.size; have := B2.out.size; omega) (fun j hj => by cases hj; omega)
end Go.Proofs.YtidahhfpnhmkgabDoor
