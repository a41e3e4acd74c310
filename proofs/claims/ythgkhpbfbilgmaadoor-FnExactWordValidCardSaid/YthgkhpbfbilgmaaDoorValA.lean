/- What makes steps and lists of states valid: the plain functions, and the program's and the model's. Conditions: as each says. -/
import Derived.Test.YthgkhpbfbilgmaaDoorCmp
import Derived.Deep.RegionHeld3
namespace Go.Proofs.YthgkhpbfbilgmaaDoor
open Go.RowKit
set_option maxHeartbeats 1000000
set_option maxRecDepth 100000
set_option linter.unusedVariables false

theorem three_ints (w : World) (a b c : Int) (t : TypeId) : Ints (w.alloc (.cells #[.int .i64 a, .int .i64 b, .int .i64 c] t)) (w.heap.size + 1) (some ⟨w.heap.size, 0, none⟩) [a, b, c] :=
  ⟨by simp [maxLen], fun _ => ⟨w.heap.size, 0, rfl, by omega, fun k hk => by
    have hk3 : k = 0 ∨ k = 1 ∨ k = 2 := by simp at hk; omega
    rw [Nat.zero_add, (Blk.new w t _).cell k]
    rcases hk3 with rfl | rfl | rfl <;> rfl⟩⟩
/-- The order of two steps as the program tells it. -/
def cmpS (s t : StepD) : Int := orF [cmpI s.fr t.fr, Lib.compareBytes s.le.data.toList t.le.data.toList, cmpI s.to_ t.to_]
theorem compareSteps_any (s t : StepD) (w : World) :
    Calls Tryd.prog 105 #[stepV s, stepV t] w fun e w' => e = .returned (.int .i64 (cmpS s t)) ∧ Hid (Below w.heap.size w w') := by
  unfold stepV
  go_enter Tryd.func105, Tryd.ntmps105
  go_wp2_with fail
  obtain ⟨W, hW⟩ : ∃ W, W = (w.alloc (.cells #[.int .i64 s.fr, .string s.le, .int .i64 s.to_, .int .i64 s.co] 81)).alloc (.cells #[.int .i64 t.fr, .string t.le, .int .i64 t.to_, .int .i64 t.co] 81) := ⟨_, rfl⟩
  have HA : Hid (Blk W w.heap.size 81 #[.int .i64 s.fr, .string s.le, .int .i64 s.to_, .int .i64 s.co]) := by rw [hW]; exact (Blk.new _ _ _).alloc _
  have HB : Hid (Blk W (w.heap.size + 1) 81 #[.int .i64 t.fr, .string t.le, .int .i64 t.to_, .int .i64 t.co]) := by rw [hW]; exact blk_new (by simp)
  have HBW : Hid (Below w.heap.size w W) := by rw [hW]; exact below_a2 _ _ _
  rw [← hW]
  clear hW
  have KS : ∀ w', Blk w' w.heap.size 81 #[.int .i64 s.fr, .string s.le, .int .i64 s.to_, .int .i64 s.co] → Blk w' (w.heap.size + 1) 81 #[.int .i64 t.fr, .string t.le, .int .i64 t.to_, .int .i64 t.co] → (w'.cell? ⟨w.heap.size, 0, none⟩ = some (.int .i64 s.fr) ∧ w'.cell? ⟨w.heap.size, 1, none⟩ = some (.string s.le) ∧ w'.cell? ⟨w.heap.size, 2, none⟩ = some (.int .i64 s.to_) ∧ w'.cell? ⟨w.heap.size + 1, 0, none⟩ = some (.int .i64 t.fr) ∧ w'.cell? ⟨w.heap.size + 1, 1, none⟩ = some (.string t.le) ∧ w'.cell? ⟨w.heap.size + 1, 2, none⟩ = some (.int .i64 t.to_)) := fun w' h1 h2 => ⟨h1.cell 0, h1.cell 1, h1.cell 2, h2.cell 0, h2.cell 1, h2.cell 2⟩
  have hS0 := KS W.drew HA.out HB.out
  have KD : Hid (∀ o, (((W.alloc o).drew).cell? ⟨w.heap.size, 0, none⟩ = some (.int .i64 s.fr) ∧ ((W.alloc o).drew).cell? ⟨w.heap.size, 1, none⟩ = some (.string s.le) ∧ ((W.alloc o).drew).cell? ⟨w.heap.size, 2, none⟩ = some (.int .i64 s.to_) ∧ ((W.alloc o).drew).cell? ⟨w.heap.size + 1, 0, none⟩ = some (.int .i64 t.fr) ∧ ((W.alloc o).drew).cell? ⟨w.heap.size + 1, 1, none⟩ = some (.string t.le) ∧ ((W.alloc o).drew).cell? ⟨w.heap.size + 1, 2, none⟩ = some (.int .i64 t.to_))) := fun o => KS _ (HA.out.alloc o) (HB.out.alloc o)
  have HI : Hid (Ints ((W.alloc (.cells #[.int .i64 (cmpI s.fr t.fr), .int .i64 (Lib.compareBytes s.le.data.toList t.le.data.toList), .int .i64 (cmpI s.to_ t.to_)] 3)).drew) (W.heap.size + 1) (some ⟨W.heap.size, 0, none⟩) [cmpI s.fr t.fr, Lib.compareBytes s.le.data.toList t.le.data.toList, cmpI s.to_ t.to_]) := three_ints W _ _ _ _
  clear KS
  go_region_held3 (fun w' => w'.cell? ⟨w.heap.size, 0, none⟩ = some (.int .i64 s.fr) ∧ w'.cell? ⟨w.heap.size, 1, none⟩ = some (.string s.le) ∧ w'.cell? ⟨w.heap.size, 2, none⟩ = some (.int .i64 s.to_) ∧ w'.cell? ⟨w.heap.size + 1, 0, none⟩ = some (.int .i64 t.fr) ∧ w'.cell? ⟨w.heap.size + 1, 1, none⟩ = some (.string t.le) ∧ w'.cell? ⟨w.heap.size + 1, 2, none⟩ = some (.int .i64 t.to_)) (first | with_reducible assumption | with_reducible exact KD.out _ | skip)
    (first
      | (go_at_call_of 114 (Value.int .i64 s.fr); refine (cmpI_any s.fr t.fr _).mono ?_; rintro e w1 ⟨rfl, rfl⟩)
      | (go_at_call_of 114 (Value.int .i64 s.to_); refine (cmpI_any s.to_ t.to_ _).mono ?_; rintro e w2 ⟨rfl, rfl⟩)
      | (go_at_call 115; refine (compare_any s.le t.le _).mono ?_; rintro e w3 ⟨rfl, rfl⟩)
      | (go_at_call 113; refine (or_any _ 3 _ _ _ HI.out).mono ?_; rintro e w4 ⟨rfl, rfl⟩))
  all_goals
    go_wp2_with fail
    go_ret
    exact ⟨rfl, (below_al HBW.out (Nat.le_refl _) _).drew⟩
end Go.Proofs.YthgkhpbfbilgmaaDoor
