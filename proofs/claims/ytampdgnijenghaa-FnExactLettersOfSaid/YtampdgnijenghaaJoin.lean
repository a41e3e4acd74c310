/- The library's joining of at most two texts with nothing between them: what was there stands. -/
import Derived.Test.YtampdgnijenghaaBld
import Derived.Test.YtampdgnijenghaaOwn
import Derived.Test.YtampdgnijenghaaMats
namespace Go.Proofs.Ytampdgnijenghaa
open Go.RowKit
set_option maxHeartbeats 4000000
set_option maxRecDepth 100000
set_option linter.unusedVariables false

theorem bld_grow (B b n : Nat) (w : World) (hB : B ≤ b) (hbk : w.heap[b]? = some (.cells #[.pointer none, .slice none 0 0] 64 (0, 0))) (hBw : B ≤ w.heap.size) (h0 : 0 < n) (hn : n ≤ 281474976710656) :
    Calls Try.prog 32 #[.pointer (some ⟨b, 0, none⟩), .int .i64 n] w fun e w' => e = .returned (.tuple #[]) ∧ (Lib.BuilderAt 64 5 B b (.pointer (some ⟨b, 0, none⟩)) [] w' ∧ Below B w w') := by
  have hbk1 : (w.setCell ⟨b, 0, none⟩ (.pointer (some ⟨b, 0, none⟩))).heap[b]? = some (.cells #[.pointer (some ⟨b, 0, none⟩), .slice none 0 0] 64 (0, 0)) := by
    simp [World.setCell, Array.getElem?_modify, hbk]
  have HB1 : Hid (Below B w (w.setCell ⟨b, 0, none⟩ (.pointer (some ⟨b, 0, none⟩)))) := (Below.refl B w).setCell (p := ⟨b, 0, none⟩) hB _
  have hn0 : (0 : Int) < (n : Int) := by omega
  have hn1 : ¬ (n : Int) < 0 := by omega
  have c0 : w.cell? ⟨b, 0, none⟩ = some (.pointer none) := by rw [Lib.cell_of_heap hbk]; rfl
  have sh : w.shape? b = some (64, 2) := by simp [World.shape?, hbk]
  have fz := Lib.frozen_of_heap hbk 0
  have HBK := Lib.hid hbk1
  go_enter Try.func32, Try.ntmps32
  go_wp2_with fail
  refine (bld_fresh b w c0 sh fz).mono ?_
  rintro e w' ⟨rfl, rfl⟩
  have hsz : B ≤ (w.setCell ⟨b, 0, none⟩ (.pointer (some ⟨b, 0, none⟩))).heap.size := by simp [World.setCell]; exact hBw
  generalize w.setCell ⟨b, 0, none⟩ (.pointer (some ⟨b, 0, none⟩)) = w1 at HBK HB1 hsz ⊢
  clear hbk hbk1 c0 sh fz
  have c1 : w1.cell? ⟨b, 1, none⟩ = some (.slice none 0 0) := by rw [Lib.cell_of_heap HBK.out]; rfl
  go_wp2_with fail
  go_quiet (fail)
  go_wp2_with fail
  refine (Try.Builder_grow_fresh B b n (w1.drewN nq) hB HBK.out hsz hn).mono ?_
  rintro e w' ⟨rfl, h1, h2⟩
  have H1 := Lib.hid h1
  have H2 : Hid (Below B w w') := (below_dr HB1.out nq).trans h2
  clear h1 h2
  go_wp2_with fail
  go_end0
  exact ⟨rfl, H1.out, H2.out⟩

theorem join_none (A : Option Addr) (cap : Nat) (w : World) :
    Calls Try.prog 16 #[.slice A 0 cap, .string ⟨#[]⟩] w fun e w' => e = .returned (.string ⟨#[]⟩) ∧ w' = w := by
  go_enter Try.func16, Try.ntmps16
  go_wp2_with fail
  go_ret
  exact ⟨rfl, rfl⟩
theorem join_one (g cap : Nat) (x : ByteArray) (w : World) (hc : w.cell? ⟨g, 0, none⟩ = some (.string x)) :
    Calls Try.prog 16 #[.slice (some ⟨g, 0, none⟩) 1 cap, .string ⟨#[]⟩] w fun e w' => e = .returned (.string x) ∧ w' = w := by
  go_enter Try.func16, Try.ntmps16
  go_wp2_with fail
  go_ret
  exact ⟨rfl, rfl⟩
theorem join_ab (g cap : Nat) (w : World) (hcap : 2 ≤ cap) (hg : g < w.heap.size) (hc0 : w.cell? ⟨g, 0, none⟩ = some (.string ⟨#[97]⟩)) (hc1 : w.cell? ⟨g, 1, none⟩ = some (.string ⟨#[98]⟩)) :
    Calls Try.prog 16 #[.slice (some ⟨g, 0, none⟩) 2 cap, .string ⟨#[]⟩] w fun e w' => e = .returned (.string ⟨#[97, 98]⟩) ∧ Below w.heap.size w w' := by
  have hb1 : (1 : Nat) ≤ cap := by omega
  go_enter Try.func16, Try.ntmps16
  go_wp2_with fail
  refine wp_loop_rounds 3 ?_
  rw [rounds_succ]
  go_wp2_with fail
  rw [rounds_succ]
  go_wp2_with fail
  rw [rounds_succ]
  go_wp2_with fail
  have hbk : (w.alloc (.cells #[.pointer none, .slice none 0 0] 64)).heap[w.heap.size]? = some (.cells #[.pointer none, .slice none 0 0] 64 (0, 0)) := heap_alloc_new w _
  have B0 := below_a1 w (.cells #[.pointer none, .slice none 0 0] 64)
  have hgr := bld_grow w.heap.size w.heap.size 2 (w.alloc (.cells #[.pointer none, .slice none 0 0] 64)) (Nat.le_refl _) hbk B0.size (by omega) (by omega)
  refine hgr.mono ?_
  rintro e w1 ⟨rfl, h1, b1⟩
  have B1 : Below w.heap.size w w1 := B0.trans b1
  clear hbk hgr B0 b1
  have d0 : w1.cell? ⟨g, 0, none⟩ = some (.string ⟨#[97]⟩) := (B1.cell (p := ⟨g, 0, none⟩) hg).trans hc0
  have gw1 : g < w1.heap.size := Nat.lt_of_lt_of_le hg B1.size
  go_wp2_with fail
  refine (bld_write w.heap.size w.heap.size _ _ _ (Or.inr h1) (by decide) B1.size).mono ?_
  rintro e w2 ⟨rfl, h2, b2⟩
  have B2 : Below w.heap.size w w2 := B1.trans b2
  have d1 : w2.cell? ⟨g, 1, none⟩ = some (.string ⟨#[98]⟩) := (B2.cell (p := ⟨g, 1, none⟩) hg).trans hc1
  have gw2 : g < w2.heap.size := Nat.lt_of_lt_of_le hg B2.size
  clear h1 b2 d0 gw1
  go_wp2_with fail
  refine wp_loop_rounds 2 ?_
  rw [rounds_succ]
  go_wp2_with fail
  refine (bld_write w.heap.size w.heap.size _ _ _ (Or.inr h2) (by decide) B2.size).mono ?_
  rintro e w3 ⟨rfl, h3, b3⟩
  have B3 : Below w.heap.size w w3 := B2.trans b3
  clear h2 b3 d1 gw2
  go_wp2_with fail
  refine (bld_write w.heap.size w.heap.size _ _ _ (Or.inr h3) (by decide) B3.size).mono ?_
  rintro e w4 ⟨rfl, h4, b4⟩
  have B4 : Below w.heap.size w w4 := B3.trans b4
  clear h3 b4
  go_wp2_with fail
  rw [rounds_succ]
  go_wp2_with fail
  have h4' : Lib.IsBuilder 64 5 w.heap.size w.heap.size (Lib.byteCells [97, 98]) w4 := Or.inr h4
  refine (Try.Builder_String_any w.heap.size w.heap.size _ _ h4' B4.size).mono ?_
  rintro e w5 ⟨rfl, b5⟩
  go_wp2_with fail
  go_ret
  exact ⟨rfl, B4.trans b5⟩
end Go.Proofs.Ytampdgnijenghaa
