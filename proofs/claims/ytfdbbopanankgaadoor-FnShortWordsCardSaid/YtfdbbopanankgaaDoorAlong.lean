/- The program's costs of all states: those at the start, and the least one among some states; nothing that was there changes. Condition: all are costs. The program's step of the costs of all states by one letter more: the least ones, in whatever order the map's entries come; nothing that was there changes. Conditions: at most four states, steps between them, all are costs. A loop over an iterator that keeps its own state in memory: what the iterator owes and what the loop's body owes. Conditions: the body never leaves the loop, and leaves the iterator's own blocks, and those that it reads, as they are. The program's iterator over the costs of all states, by each beginning of a word: what it owes a loop. Conditions: at most four states, steps between them, a word of the two letters, the machine and the word in their blocks. The program's cost of a word for a machine: a loop over the iterator. Conditions: as the iterator's. -/
import Derived.Test.YtfdbbopanankgaaDoorPathT
import Derived.Test.YtfdbbopanankgaaDoorOwnK
import Derived.Test.YtfdbbopanankgaaDoorMach2
import Derived.Test.YtfdbbopanankgaaDoorMapK
import Derived.Test.YtfdbbopanankgaaDoorWordM
import Derived.Test.YtfdbbopanankgaaDoorProg
import Derived.RangeFuncFrom
import Derived.RangeFuncBound
import Derived.RangeFuncCalls
import Derived.RangeFuncLeaves
import Derived.RangeFuncNested
import Derived.Shelf.Abstract
import Derived.Shelf.RegionOpen
import Derived.WalkKit
import Derived.OwnWalkIn
import Derived.TacticsInMore
import Derived.LoopNIn
import Derived.LoopIn
namespace Go.Proofs.YtfdbbopanankgaaDoor
open Go.RowKit
set_option maxHeartbeats 4000000
set_option maxRecDepth 100000
set_option linter.unusedVariables false

def vecC (v : VF) : Array Value := #[.int .i64 (v 0), .int .i64 (v 1), .int .i64 (v 2), .int .i64 (v 3)]
/-- Of the first k those that are not in the set can't be had. -/
def bC (b0 b1 b2 b3 : Bool) (k : Nat) : Array Value := #[.int .i64 (if 0 < k ∧ b0 = false then 1000000 else 0), .int .i64 (if 1 < k ∧ b1 = false then 1000000 else 0), .int .i64 (if 2 < k ∧ b2 = false then 1000000 else 0), .int .i64 (if 3 < k ∧ b3 = false then 1000000 else 0)]
theorem gives_vec {tmps : Array Value} {w : World} {p : Tmp} {g : Nat} {t : TypeId} {a b c d : Value} (hp : tmps.getD p undef = .pointer (some ⟨g, 0, none⟩)) (hg : Blk w g t #[a, b, c, d]) : Gives Tryd.prog tmps w (.cell p 68) (.agg #[a, b, c, d]) :=
  Gives.row hp hg Tryd.underlying68 rfl (by kernel_rfl)
theorem startV_of (xs : List Int) (k : Nat) (b : Bool) (h : hasB xs k = b) : startV xs k = if b then 0 else 1000000 := by
  unfold startV; rw [h]

theorem startCosts_any (xs : List Int) (w : World) :
    Calls Tryd.prog 50 #[.agg (setC xs)] w fun e w' => e = .returned (.agg (vecC (startV xs))) ∧ Below w.heap.size w w' := by
  obtain ⟨b0, hb0⟩ : ∃ b, hasB xs ((0 : Nat) : Int) = b := ⟨_, rfl⟩
  obtain ⟨b1, hb1⟩ : ∃ b, hasB xs ((1 : Nat) : Int) = b := ⟨_, rfl⟩
  obtain ⟨b2, hb2⟩ : ∃ b, hasB xs ((2 : Nat) : Int) = b := ⟨_, rfl⟩
  obtain ⟨b3, hb3⟩ : ∃ b, hasB xs ((3 : Nat) : Int) = b := ⟨_, rfl⟩
  have v0 := startV_of xs 0 b0 hb0
  have v1 := startV_of xs 1 b1 hb1
  have v2 := startV_of xs 2 b2 hb2
  have v3 := startV_of xs 3 b3 hb3
  unfold setC vecC
  rw [v0, v1, v2, v3]
  rw [show hasB xs 0 = b0 from hb0, show hasB xs 1 = b1 from hb1, show hasB xs 2 = b2 from hb2, show hasB xs 3 = b3 from hb3]
  clear v0 v1 v2 v3 hb0 hb1 hb2 hb3
  obtain ⟨z0, hz0⟩ : ∃ z : Int, (if b0 = true then 0 else 1000000) = z := ⟨_, rfl⟩
  obtain ⟨z1, hz1⟩ : ∃ z : Int, (if b1 = true then 0 else 1000000) = z := ⟨_, rfl⟩
  obtain ⟨z2, hz2⟩ : ∃ z : Int, (if b2 = true then 0 else 1000000) = z := ⟨_, rfl⟩
  obtain ⟨z3, hz3⟩ : ∃ z : Int, (if b3 = true then 0 else 1000000) = z := ⟨_, rfl⟩
  rw [hz0, hz1, hz2, hz3]
  have Z0 := Lib.hid hz0
  have Z1 := Lib.hid hz1
  have Z2 := Lib.hid hz2
  have Z3 := Lib.hid hz3
  clear hz0 hz1 hz2 hz3
  go_enter Tryd.func50, Tryd.ntmps50
  go_wp2_with fail
  obtain ⟨G, hG⟩ : ∃ G, G = w.heap.size + 1 + 1 := ⟨_, rfl⟩
  have HGW : w.heap.size + 1 < G := by omega
  have S0 : Hid (Blk (((w.alloc (.cells #[.bool b0, .bool b1, .bool b2, .bool b3] 42)).alloc (.cells #[.int .i64 0, .int .i64 0, .int .i64 0, .int .i64 0] 68)).alloc (.cells #[.int .i64 0, .int .i64 0, .int .i64 0, .int .i64 0] 68)) G 68 (bC b0 b1 b2 b3 0)) := blk_new (by simp; omega)
  have R0 : Hid (Blk (((w.alloc (.cells #[.bool b0, .bool b1, .bool b2, .bool b3] 42)).alloc (.cells #[.int .i64 0, .int .i64 0, .int .i64 0, .int .i64 0] 68)).alloc (.cells #[.int .i64 0, .int .i64 0, .int .i64 0, .int .i64 0] 68)) (w.heap.size + 1) 68 #[.int .i64 0, .int .i64 0, .int .i64 0, .int .i64 0]) := (blk_new (by simp)).alloc _
  have B0 := Lib.hid (below_a3 w (.cells #[.bool b0, .bool b1, .bool b2, .bool b3] 42) (.cells #[.int .i64 0, .int .i64 0, .int .i64 0, .int .i64 0] 68) (.cells #[.int .i64 0, .int .i64 0, .int .i64 0, .int .i64 0] 68))
  generalize ((w.alloc (.cells #[.bool b0, .bool b1, .bool b2, .bool b3] 42)).alloc (.cells #[.int .i64 0, .int .i64 0, .int .i64 0, .int .i64 0] 68)).alloc (.cells #[.int .i64 0, .int .i64 0, .int .i64 0, .int .i64 0] 68) = w3 at S0 R0 B0 ⊢
  rw [← hG]
  clear hG
  go_loopw [7] (fun i wr => ∃ k : Nat, k ≤ 4 ∧ i = .int .i64 k ∧ Hid (Blk wr G 68 (bC b0 b1 b2 b3 k)) ∧ Hid (Blk wr (w.heap.size + 1) 68 #[.int .i64 0, .int .i64 0, .int .i64 0, .int .i64 0]) ∧ Hid (Below w.heap.size w wr)) (fun i _ => 4 - (intOf i).toNat)
  case atStart => exact ⟨0, Nat.zero_le _, rfl, S0, R0, B0⟩
  case round =>
    obtain ⟨k, hk, rfl, hs, hr, hbw⟩ := hrel
    have hk5 : k = 0 ∨ k = 1 ∨ k = 2 ∨ k = 3 ∨ k = 4 := by omega
    have hB3 := fun i => Lib.hid (hbw.out.setCell (p := ⟨G, i, none⟩) (by simp; omega) (.int .i64 1000000))
    have hR3 := fun i => Lib.hid (hr.out.other G i (.int .i64 1000000) (by omega))
    rcases hk5 with rfl | rfl | rfl | rfl | rfl
    · have ix := idx0 (.bool b0) (.bool b1) (.bool b2) (.bool b3)
      cases b0
      · have S3 : Hid (Blk (wr.setCell ⟨G, 0, none⟩ (.int .i64 1000000)) G 68 (bC false b1 b2 b3 1)) := by
          have h := hs.out.set_ 0 (.int .i64 1000000)
          simp [bC] at h ⊢
          exact h
        obtain ⟨c0, c1, c2, c3⟩ := four_cells hs.out
        obtain ⟨f0, f1, f2, f3⟩ := four_frozen hs.out
        go_wp2_with fail
        go_roundw
        case rel => exact ⟨1, by omega, by go_num, S3, hR3 0, hB3 0⟩
        case measure => simp [intOf]
      · have S3 : Hid (Blk wr G 68 (bC true b1 b2 b3 1)) := by
          have h := hs.out
          simp [bC] at h ⊢
          exact h
        go_wp2_with fail
        go_roundw
        case rel => exact ⟨1, by omega, by go_num, S3, hr, hbw⟩
        case measure => simp [intOf]
    · have ix := idx1 (.bool b0) (.bool b1) (.bool b2) (.bool b3)
      cases b1
      · have S3 : Hid (Blk (wr.setCell ⟨G, 1, none⟩ (.int .i64 1000000)) G 68 (bC b0 false b2 b3 2)) := by
          have h := hs.out.set_ 1 (.int .i64 1000000)
          simp [bC] at h ⊢
          exact h
        obtain ⟨c0, c1, c2, c3⟩ := four_cells hs.out
        obtain ⟨f0, f1, f2, f3⟩ := four_frozen hs.out
        go_wp2_with fail
        go_roundw
        case rel => exact ⟨2, by omega, by go_num, S3, hR3 1, hB3 1⟩
        case measure => simp [intOf]
      · have S3 : Hid (Blk wr G 68 (bC b0 true b2 b3 2)) := by
          have h := hs.out
          simp [bC] at h ⊢
          exact h
        go_wp2_with fail
        go_roundw
        case rel => exact ⟨2, by omega, by go_num, S3, hr, hbw⟩
        case measure => simp [intOf]
    · have ix := idx2 (.bool b0) (.bool b1) (.bool b2) (.bool b3)
      cases b2
      · have S3 : Hid (Blk (wr.setCell ⟨G, 2, none⟩ (.int .i64 1000000)) G 68 (bC b0 b1 false b3 3)) := by
          have h := hs.out.set_ 2 (.int .i64 1000000)
          simp [bC] at h ⊢
          exact h
        obtain ⟨c0, c1, c2, c3⟩ := four_cells hs.out
        obtain ⟨f0, f1, f2, f3⟩ := four_frozen hs.out
        go_wp2_with fail
        go_roundw
        case rel => exact ⟨3, by omega, by go_num, S3, hR3 2, hB3 2⟩
        case measure => simp [intOf]
      · have S3 : Hid (Blk wr G 68 (bC b0 b1 true b3 3)) := by
          have h := hs.out
          simp [bC] at h ⊢
          exact h
        go_wp2_with fail
        go_roundw
        case rel => exact ⟨3, by omega, by go_num, S3, hr, hbw⟩
        case measure => simp [intOf]
    · have ix := idx3 (.bool b0) (.bool b1) (.bool b2) (.bool b3)
      cases b3
      · have S3 : Hid (Blk (wr.setCell ⟨G, 3, none⟩ (.int .i64 1000000)) G 68 (bC b0 b1 b2 false 4)) := by
          have h := hs.out.set_ 3 (.int .i64 1000000)
          simp [bC] at h ⊢
          exact h
        obtain ⟨c0, c1, c2, c3⟩ := four_cells hs.out
        obtain ⟨f0, f1, f2, f3⟩ := four_frozen hs.out
        go_wp2_with fail
        go_roundw
        case rel => exact ⟨4, by omega, by go_num, S3, hR3 3, hB3 3⟩
        case measure => simp [intOf]
      · have S3 : Hid (Blk wr G 68 (bC b0 b1 b2 true 4)) := by
          have h := hs.out
          simp [bC] at h ⊢
          exact h
        go_wp2_with fail
        go_roundw
        case rel => exact ⟨4, by omega, by go_num, S3, hr, hbw⟩
        case measure => simp [intOf]
    · have S4 : Hid (Blk wr G 68 #[.int .i64 z0, .int .i64 z1, .int .i64 z2, .int .i64 z3]) := by
        have h := hs.out
        rw [← Z0.out, ← Z1.out, ← Z2.out, ← Z3.out]
        cases b0 <;> cases b1 <;> cases b2 <;> cases b3 <;> exact h
      clear hs hB3 hR3
      obtain ⟨c0, c1, c2, c3⟩ := four_cells S4.out
      obtain ⟨d0, d1, d2, d3⟩ := four_cells hr.out
      obtain ⟨f0, f1, f2, f3⟩ := four_frozen hr.out
      go_wp2_with fail
      have HF := ((((hr.out.set_ 0 (.int .i64 z0)).set_ 1 (.int .i64 z1)).set_ 2 (.int .i64 z2)).set_ 3 (.int .i64 z3))
      refine bodyPost_ret (results_1 rfl (gives_vec (g := w.heap.size + 1) rfl HF)) rfl ?_
      exact ⟨rfl, (((hbw.out.setCell (p := ⟨_, 0, none⟩) (Nat.le_succ _) _).setCell (p := ⟨_, 1, none⟩) (Nat.le_succ _) _).setCell (p := ⟨_, 2, none⟩) (Nat.le_succ _) _).setCell (p := ⟨_, 3, none⟩) (Nat.le_succ _) _⟩

theorem leastV_t (ys : List Int) (v : VF) (q : Nat) (h : hasB ys q = true) : leastV ys v (q + 1) = min (leastV ys v q) (v q) := by
  rw [leastV]; rw [if_pos h]
theorem leastV_f (ys : List Int) (v : VF) (q : Nat) (h : hasB ys q = false) : leastV ys v (q + 1) = leastV ys v q := by
  rw [leastV]; rw [if_neg (by rw [h]; decide)]
theorem leastIn_any (ys : List Int) (v : VF) (w : World) :
    Calls Tryd.prog 32 #[.agg (vecC v), .agg (setC ys)] w fun e w' => e = .returned (.int .i64 (leastV ys v 4)) ∧ Below w.heap.size w w' := by
  obtain ⟨b0, hb0⟩ : ∃ b, hasB ys ((0 : Nat) : Int) = b := ⟨_, rfl⟩
  obtain ⟨b1, hb1⟩ : ∃ b, hasB ys ((1 : Nat) : Int) = b := ⟨_, rfl⟩
  obtain ⟨b2, hb2⟩ : ∃ b, hasB ys ((2 : Nat) : Int) = b := ⟨_, rfl⟩
  obtain ⟨b3, hb3⟩ : ∃ b, hasB ys ((3 : Nat) : Int) = b := ⟨_, rfl⟩
  have H0 := Lib.hid hb0
  have H1 := Lib.hid hb1
  have H2 := Lib.hid hb2
  have H3 := Lib.hid hb3
  obtain ⟨r, hr⟩ : ∃ r, leastV ys v 4 = r := ⟨_, rfl⟩
  have HR := Lib.hid hr
  obtain ⟨v0, hv0⟩ : ∃ z, v 0 = z := ⟨_, rfl⟩
  obtain ⟨v1, hv1⟩ : ∃ z, v 1 = z := ⟨_, rfl⟩
  obtain ⟨v2, hv2⟩ : ∃ z, v 2 = z := ⟨_, rfl⟩
  obtain ⟨v3, hv3⟩ : ∃ z, v 3 = z := ⟨_, rfl⟩
  have V0 := Lib.hid hv0
  have V1 := Lib.hid hv1
  have V2 := Lib.hid hv2
  have V3 := Lib.hid hv3
  unfold setC vecC
  rw [show hasB ys 0 = b0 from hb0, show hasB ys 1 = b1 from hb1, show hasB ys 2 = b2 from hb2, show hasB ys 3 = b3 from hb3, hv0, hv1, hv2, hv3, hr]
  clear hb0 hb1 hb2 hb3 hv0 hv1 hv2 hv3 hr
  go_enter Tryd.func32, Tryd.ntmps32
  go_wp2_with fail
  have S0 : Hid (Blk ((w.alloc (.cells #[.int .i64 v0, .int .i64 v1, .int .i64 v2, .int .i64 v3] 68)).alloc (.cells #[.bool b0, .bool b1, .bool b2, .bool b3] 42)) w.heap.size 68 #[.int .i64 v0, .int .i64 v1, .int .i64 v2, .int .i64 v3]) := (Blk.new _ _ _).alloc _
  have B0 := Lib.hid (below_a2 w (.cells #[.int .i64 v0, .int .i64 v1, .int .i64 v2, .int .i64 v3] 68) (.cells #[.bool b0, .bool b1, .bool b2, .bool b3] 42))
  generalize (w.alloc (.cells #[.int .i64 v0, .int .i64 v1, .int .i64 v2, .int .i64 v3] 68)).alloc (.cells #[.bool b0, .bool b1, .bool b2, .bool b3] 42) = w2 at S0 B0 ⊢
  obtain ⟨c0, c1, c2, c3⟩ := four_cells S0.out
  go_loop [5, 9] (fun a i => ∃ k : Nat, k ≤ 4 ∧ i = .int .i64 k ∧ a = .int .i64 (leastV ys v k)) (fun _ i => 4 - (intOf i).toNat)
  case atStart => exact ⟨0, Nat.zero_le _, rfl, rfl⟩
  case round =>
    obtain ⟨k, hk, rfl, rfl⟩ := hrel
    have hk5 : k = 0 ∨ k = 1 ∨ k = 2 ∨ k = 3 ∨ k = 4 := by omega
    rcases hk5 with rfl | rfl | rfl | rfl | rfl
    · have ix := idx0 (.bool b0) (.bool b1) (.bool b2) (.bool b3)
      cases b0
      · go_wp2_with fail
        go_round
        case rel => exact ⟨1, by omega, by go_num, by rw [leastV_f ys v 0 H0.out]⟩
        case measure => simp [intOf]
      · go_wp2_with fail
        go_round
        case rel => exact ⟨1, by omega, by go_num, by rw [leastV_t ys v 0 H0.out, V0.out]⟩
        case measure => simp [intOf]
    · have ix := idx1 (.bool b0) (.bool b1) (.bool b2) (.bool b3)
      cases b1
      · go_wp2_with fail
        go_round
        case rel => exact ⟨2, by omega, by go_num, by rw [leastV_f ys v 1 H1.out]⟩
        case measure => simp [intOf]
      · go_wp2_with fail
        go_round
        case rel => exact ⟨2, by omega, by go_num, by rw [leastV_t ys v 1 H1.out, V1.out]⟩
        case measure => simp [intOf]
    · have ix := idx2 (.bool b0) (.bool b1) (.bool b2) (.bool b3)
      cases b2
      · go_wp2_with fail
        go_round
        case rel => exact ⟨3, by omega, by go_num, by rw [leastV_f ys v 2 H2.out]⟩
        case measure => simp [intOf]
      · go_wp2_with fail
        go_round
        case rel => exact ⟨3, by omega, by go_num, by rw [leastV_t ys v 2 H2.out, V2.out]⟩
        case measure => simp [intOf]
    · have ix := idx3 (.bool b0) (.bool b1) (.bool b2) (.bool b3)
      cases b3
      · go_wp2_with fail
        go_round
        case rel => exact ⟨4, by omega, by go_num, by rw [leastV_f ys v 3 H3.out]⟩
        case measure => simp [intOf]
      · go_wp2_with fail
        go_round
        case rel => exact ⟨4, by omega, by go_num, by rw [leastV_t ys v 3 H3.out, V3.out]⟩
        case measure => simp [intOf]
    · go_wp2_with fail
      go_ret
      exact ⟨ret_int HR.out, B0.out⟩
end Go.Proofs.YtfdbbopanankgaaDoor
namespace Go.Proofs.YtfdbbopanankgaaDoor
open Go.RowKit
set_option maxHeartbeats 4000000
set_option maxRecDepth 100000
set_option linter.unusedVariables false

/-- What the entries that have come make of the costs. -/
def AftP (F : FF) (l : ByteArray) (v : VF) (left : LF) (u : VF) : Prop := ∀ k : Nat, k < 4 → ∀ x : Int, x ≤ u k ↔ x ≤ 1000000 ∧ ∀ (p : Nat) (c : Int), F p l k = some c → left p l k = false → x ≤ v p + c
theorem aft_start (F : FF) (l : ByteArray) (v : VF) : AftP F l v (fun f l t => (F f l t).isSome) (fun _ => 1000000) := fun k _ x => by
  constructor
  · intro h
    exact ⟨h, fun p c hF hl => by simp [hF] at hl⟩
  · exact fun h => h.1
theorem aft_skip {F : FF} {l le : ByteArray} {v : VF} {left : LF} {u : VF} {f t : Int} (h : AftP F l v left u) (hne : ¬ le = l) : AftP F l v (strike left f le t) u := fun k hk x => by
  rw [h k hk x]
  have e : ∀ p : Nat, strike left f le t p l k = left p l k := fun p => by
    unfold strike
    rw [decide_eq_false (fun hh => hne (by cases le; cases l; simp at hh; rw [hh.2.1]))]
    simp
  constructor
  · rintro ⟨h1, h2⟩
    exact ⟨h1, fun p c hF hl => h2 p c hF (by rw [← e]; exact hl)⟩
  · rintro ⟨h1, h2⟩
    exact ⟨h1, fun p c hF hl => h2 p c hF (by rw [e]; exact hl)⟩
def putV (u : VF) (t : Nat) (z : Int) : VF := fun k => if k = t then z else u k
theorem aft_take {F : FF} {l : ByteArray} {v : VF} {left : LF} {u : VF} {f t : Nat} {c : Int} (h : AftP F l v left u) (ht : t < 4) (hF : F f l t = some c) (hl : left f l t = true) : AftP F l v (strike left f l t) (putV u t (min (u t) (min (v f + c) 1000000))) := fun k hk x => by
  unfold putV
  by_cases e : k = t
  · subst e
    rw [if_pos rfl]
    have h1 := h k hk x
    constructor
    · intro hx
      have h2 := h1.1 (by omega)
      refine ⟨h2.1, fun p c' hF' hl' => ?_⟩
      by_cases ep : p = f
      · subst ep
        rw [hF] at hF'; cases hF'
        omega
      · refine h2.2 p c' hF' ?_
        unfold strike at hl'
        rw [decide_eq_false (fun hh => ep (by omega))] at hl'
        simpa using hl'
    · rintro ⟨h2, h3⟩
      have h4 := h3 f c hF (by unfold strike; simp)
      have h5 := h1.2 ⟨h2, fun p c' hF' hl' => h3 p c' hF' (by unfold strike; rw [hl']; rfl)⟩
      omega
  · rw [if_neg e, h k hk x]
    have es : ∀ p : Nat, strike left f l t p l k = left p l k := fun p => by
      unfold strike
      rw [decide_eq_false (fun hh => e (by omega))]
      simp
    constructor
    · rintro ⟨h1, h2⟩
      exact ⟨h1, fun p c hF hl => h2 p c hF (by rw [← es]; exact hl)⟩
    · rintro ⟨h1, h2⟩
      exact ⟨h1, fun p c hF hl => h2 p c hF (by rw [es]; exact hl)⟩
theorem aft_done {n : Nat} {ss : List StepD} {l : ByteArray} {v : VF} {left : LF} {u : VF} (hok : ∀ s ∈ ss, stepOk n s = true) (n2 : n ≤ 4) (hl : l.size ≤ maxLen) (hv : InV n v) (h : AftP (costAt ss) l v left u) (h0 : ∀ f l t, kwf f l t → left f l t = false) : ∀ k : Nat, k < 4 → u k = nextV n (cellF (costAt ss) l) v k := fun k hk => by
  apply eq_of_le
  intro x
  rw [h k hk x]
  unfold nextV
  by_cases hkn : k < n
  · rw [if_pos hkn, le_dot]
    constructor
    · rintro ⟨h1, h2⟩
      refine ⟨h1, fun j hj => ?_⟩
      show x ≤ v j + cellF (costAt ss) l j k
      unfold cellF
      rcases hF : costAt ss j l k with _ | c
      · have := (hv j).1
        simp only [Option.getD_none]; omega
      · exact h2 j c hF (h0 _ _ _ ⟨wf_small (by omega), hl, wf_small (by omega)⟩)
    · rintro ⟨h1, h2⟩
      refine ⟨h1, fun p c hF hl => ?_⟩
      have hp := costAt_in hok hF
      have h3 : x ≤ v p + cellF (costAt ss) l p k := h2 p (by omega)
      unfold cellF at h3
      rw [hF] at h3
      exact h3
  · rw [if_neg hkn]
    constructor
    · exact fun h => h.1
    · intro h1
      refine ⟨h1, fun p c hF hl => ?_⟩
      have hp := costAt_in hok hF
      omega
theorem vec_eq {u v : VF} (h : ∀ k, k < 4 → u k = v k) : vecC u = vecC v := by
  unfold vecC
  rw [h 0 (by omega), h 1 (by omega), h 2 (by omega), h 3 (by omega)]
theorem vec_set (u : VF) {t : Nat} (ht : t < 4) (z : Int) : (vecC u).setIfInBounds t (.int .i64 z) = vecC (putV u t z) := by
  rcases four_cases ht with rfl | rfl | rfl | rfl <;> simp [vecC, putV]
theorem vec_cell {w : World} {g : Nat} {t : TypeId} {u : VF} (h : Blk w g t (vecC u)) {q : Nat} (hq : q < 4) : w.cell? ⟨g, q, none⟩ = some (.int .i64 (u q)) := by
  rw [h.cell q]
  rcases four_cases hq with rfl | rfl | rfl | rfl <;> rfl
theorem bytes_ne {a b : ByteArray} (h : ¬ a = b) : (a.toList == b.toList) = false := by
  rw [ByteArray.toList_eq, ByteArray.toList_eq, beq_eq_false_iff_ne]
  intro he
  exact h (by cases a; cases b; simp at he ⊢; exact he)
def InU (u : VF) : Prop := ∀ k, 0 ≤ u k ∧ u k ≤ 1000000

theorem after_any (n M cnt : Nat) (b0 b1 b2 b3 b4 b5 b6 b7 : Bool) (ss : List StepD) (v : VF) (l : ByteArray) (w : World) (n2 : n ≤ 4) (hok : ∀ s ∈ ss, stepOk n s = true) (hl : l.size ≤ maxLen) (hv : InV n v) (hM : CMap w M cnt (costAt ss)) :
    Calls Tryd.prog 51 #[.agg #[.int .i64 n, .bool b0, .bool b1, .bool b2, .bool b3, .bool b4, .bool b5, .bool b6, .bool b7, .map (some M)], .agg (vecC v), .string l] w fun e w' => e = .returned (.agg (vecC (nextV n (cellF (costAt ss) l) v))) ∧ Below w.heap.size w w' := by
  have HOK := Lib.hid hok
  have HV := Lib.hid hv
  have MM := Lib.hid hM
  have HL := Lib.hid hl
  have hMw := hM.lt
  obtain ⟨r, hr⟩ : ∃ r, nextV n (cellF (costAt ss) l) v = r := ⟨_, rfl⟩
  have HR := Lib.hid hr
  obtain ⟨F, hF⟩ : ∃ F, costAt ss = F := ⟨_, rfl⟩
  have HF := Lib.hid hF
  rw [hr]
  rw [hF] at MM
  clear hok hv hM hl hr hF
  go_enter Tryd.func51, Tryd.ntmps51
  go_wp2_with fail
  refine (startCosts_any [] _).mono ?_
  rintro e w1 ⟨rfl, hb1⟩
  have A1 : Hid (Blk w1 w.heap.size 45 #[.int .i64 n, .bool b0, .bool b1, .bool b2, .bool b3, .bool b4, .bool b5, .bool b6, .bool b7, .map (some M)]) := (((Blk.new w _ _).alloc _).alloc _).below hb1 (by simp <;> omega)
  have C1 : Hid (Blk w1 (w.heap.size + 1) 68 (vecC v)) := ((blk_new (by simp)).alloc _).below hb1 (by simp <;> omega)
  have R1 : Hid (Blk w1 (w.heap.size + 1 + 1) 68 #[.int .i64 0, .int .i64 0, .int .i64 0, .int .i64 0]) := (blk_new (by simp)).below hb1 (by simp)
  have B1 := Lib.hid (below_on (below_a3 w _ _ _) hb1)
  have M1 := Lib.hid (MM.out.below B1.out)
  have hw1 := Blk.lt R1.out
  have ev : vecC (startV []) = #[.int .i64 1000000, .int .i64 1000000, .int .i64 1000000, .int .i64 1000000] := rfl
  rw [ev]
  clear hb1 ev MM
  have U1 := Lib.hid (Blk.new w1 68 (vecC (fun _ => 1000000)))
  have A2 := Lib.hid (A1.out.alloc (.cells (vecC (fun _ => 1000000)) 68))
  have C2 := Lib.hid (C1.out.alloc (.cells (vecC (fun _ => 1000000)) 68))
  have R2 := Lib.hid (R1.out.alloc (.cells (vecC (fun _ => 1000000)) 68))
  have B2 := Lib.hid (below_al B1.out (Nat.le_refl _) (.cells (vecC (fun _ => 1000000)) 68))
  have M2 := Lib.hid (M1.out.kept (World.grownBy_alloc w1 (.cells (vecC (fun _ => 1000000)) 68) none) (by simp))
  obtain ⟨G, hG⟩ : ∃ G, G = w1.heap.size := ⟨_, rfl⟩
  have ew : w1.alloc (.cells #[.int .i64 1000000, .int .i64 1000000, .int .i64 1000000, .int .i64 1000000] 68) = w1.alloc (.cells (vecC (fun _ => 1000000)) 68) := rfl
  have hs2 : G + 1 = (w1.alloc (.cells (vecC (fun _ => 1000000)) 68)).heap.size := by rw [hG]; exact (World.size_alloc _ _).symm
  rw [← hG] at U1
  generalize w1.alloc (.cells (vecC (fun _ => 1000000)) 68) = w2 at *
  have pc9 := A2.out.cell 9
  simp at pc9
  go_upto_region 2 with fail
  rw [← hG]
  have hGw : w.heap.size + 1 + 1 < G := by omega
  have hMG : M < G := by omega
  clear A1 C1 R1 B1 M1 hw1 hG ew
  go_wp2_with (first
    | (at_range; refine wpList_range_c _ rfl _ rfl M cnt F rfl M2.out ?_; intro w3 cn hran hgr hs3)
    | fail)
  go_frame
  rw [← hs2]
  rw [← hs2] at hran
  have hs4 : w3.heap.size = G + 2 := by omega
  have A3 := Lib.hid (A2.out.stay hgr (by simp))
  have C3 := Lib.hid (C2.out.stay hgr (by simp))
  have R3 := Lib.hid (R2.out.stay hgr (by simp))
  have U3 := Lib.hid (Blk.stay U1.out hgr (by simp))
  have B3 : Hid (Below w.heap.size w w3) := B2.out.grown hgr B2.out.size (fun j hj => by cases hj)
  have RA := Lib.hid hran
  clear A2 C2 R2 U1 B2 M2 hran hgr pc9
  go_loopw [8] (fun _ wr => ∃ (left : LF) (cn : Nat) (u : VF), Hid (CRan wr M (G + 1) cnt F left cn) ∧ Hid (AftP F l v left u) ∧ Hid (InU u) ∧ Hid (Blk wr G 68 (vecC u)) ∧ Hid (Ins G (G + 2) w3 wr)) (fun _ wr => wr.rangeLeft M (G + 1))
  case atStart => exact ⟨_, _, _, RA, aft_start F l v, fun k => ⟨by show (0 : Int) ≤ 1000000; omega, by show (1000000 : Int) ≤ 1000000; omega⟩, U3, rfl, rfl, rfl, Nat.le_refl _, fun _ _ _ => rfl⟩
  case round =>
    obtain ⟨left, cn, u, hra, haf, hin, hu, hins⟩ := hrel
    go_wp2_with (first
      | (at_next; refine wpList_next_c _ rfl _ rfl M (G + 1) cnt F left cn rfl hra.out ?_ ?_)
      | fail)
    · intro hl0
      have HQ : Hid (vecC u = vecC r) := by
        show _ = _
        rw [← HR.out]
        refine vec_eq (aft_done HOK.out n2 HL.out HV.out ?_ hl0)
        rw [HF.out]
        exact haf.out
      have R4 := Lib.hid (hins.out.blk R3.out (Or.inl (by omega)))
      have B4 := Lib.hid (hins.out.below B3.out (by omega) B3.out.size)
      have hu' := hu.out
      rw [HQ.out] at hu'
      have HU := Lib.hid hu'
      clear hu hu' hra haf hins
      obtain ⟨c0, c1, c2, c3⟩ := four_cells HU.out
      obtain ⟨d0, d1, d2, d3⟩ := four_cells R4.out
      obtain ⟨f0, f1, f2, f3⟩ := four_frozen R4.out
      go_wp2_with fail
      have HF4 := ((((R4.out.set_ 0 (.int .i64 (r 0))).set_ 1 (.int .i64 (r 1))).set_ 2 (.int .i64 (r 2))).set_ 3 (.int .i64 (r 3)))
      refine bodyPost_ret (results_1 rfl (gives_vec (g := w.heap.size + 1 + 1) rfl HF4)) rfl ?_
      exact ⟨rfl, (((B4.out.setCell (p := ⟨_, 0, none⟩) (by simp; omega) _).setCell (p := ⟨_, 1, none⟩) (by simp; omega) _).setCell (p := ⟨_, 2, none⟩) (by simp; omega) _).setCell (p := ⟨_, 3, none⟩) (by simp; omega) _⟩
    · intro f le t c w4 cn' hk hFs hlf hwc hra' hlt hgr hsz hen
      have hFs' := hFs
      rw [← HF.out] at hFs'
      obtain ⟨f0, f1, t0, t1, c0, c1⟩ := costAt_in HOK.out hFs'
      obtain ⟨f, rfl⟩ : ∃ i : Nat, f = (i : Int) := ⟨f.toNat, by omega⟩
      obtain ⟨t, rfl⟩ : ∃ i : Nat, t = (i : Int) := ⟨t.toNat, by omega⟩
      have hf4 : f < 4 := by omega
      have ht4 : t < 4 := by omega
      have U4 := Lib.hid (hu.out.stay hgr (by intro e; cases e; omega))
      have J4 := Lib.hid (hins.out.trans (Ins.of_grow hgr (fun j e => by cases e; omega)))
      have A4 := Lib.hid (J4.out.blk A3.out (Or.inl (by omega)))
      have C4 := Lib.hid (J4.out.blk C3.out (Or.inl (by omega)))
      have hG4 := Blk.lt U4.out
      have HCN : Hid (cn' < wr.rangeLeft M (G + 1)) := by show _ < _; rw [hra.out.left_eq]; exact hlt
      have RA4 := Lib.hid hra'
      have hr4 := RA4.out.lt
      clear hu hins hgr hra hra' hlt hsz f0 t0 hFs'
      go_upto_region 5 with fail
      have hs2' : w2.heap.size = G + 1 := hs2.symm
      rw [hs2'] at RA4 hr4
      clear hs2'
      obtain ⟨V, hV⟩ : ∃ V, V = w4.heap.size := ⟨_, rfl⟩
      have P5 : Hid (Blk (w4.alloc (.cells #[.int .i64 f, .string le, .int .i64 t] 90)) V 90 #[.int .i64 f, .string le, .int .i64 t]) := by rw [hV]; exact Blk.new _ _ _
      have U5 := Lib.hid (U4.out.alloc (.cells #[.int .i64 f, .string le, .int .i64 t] 90))
      have C5 := Lib.hid (C4.out.alloc (.cells #[.int .i64 f, .string le, .int .i64 t] 90))
      have RA5 := Lib.hid (RA4.out.kept (World.grownBy_alloc w4 (.cells #[.int .i64 f, .string le, .int .i64 t] 90) none) (by simp) (by simp))
      have J5 := Lib.hid (J4.out.trans (Ins.of_grow (B := G) (T := G + 2) (World.grownBy_alloc w4 (.cells #[.int .i64 f, .string le, .int .i64 t] 90) none) (fun j e => by cases e)))
      have hGV : G + 2 ≤ V := by omega
      rw [← hV]
      generalize w4.alloc (.cells #[.int .i64 f, .string le, .int .i64 t] 90) = w5 at P5 U5 C5 RA5 J5 ⊢
      have p0 := P5.out.cell 0
      have p1 := P5.out.cell 1
      have p2 := P5.out.cell 2
      simp at p0 p1 p2
      have gt := vec_cell U5.out ht4
      have vf := vec_cell C5.out hf4
      clear U4 C4 A4 J4 RA4 hV hen hr4 hG4
      by_cases hle : le = l
      · subst hle
        have hvf := (show InV n v from HV.out) f
        have i0 : (0 : Int) ≤ (f : Int) := by omega
        have i1 : (f : Int) < 4 := by omega
        have i2 : (0 : Int) ≤ (t : Int) := by omega
        have i3 : (t : Int) < 4 := by omega
        go_wp2_with fail
        have hS0 : Hid (w5.drew = w5.drew) ∧ w5.drew.cell? ⟨V, 0, none⟩ = some (.int .i64 f) ∧ w5.drew.cell? ⟨V, 2, none⟩ = some (.int .i64 t) ∧ w5.drew.cell? ⟨G, t, none⟩ = some (.int .i64 (u t)) ∧ w5.drew.cell? ⟨w.heap.size + 1, f, none⟩ = some (.int .i64 (v f)) := ⟨rfl, p0, p2, gt, vf⟩
        refine wp_region_Z (S := fun w' => Hid (w' = w5.drew) ∧ w'.cell? ⟨V, 0, none⟩ = some (.int .i64 f) ∧ w'.cell? ⟨V, 2, none⟩ = some (.int .i64 t) ∧ w'.cell? ⟨G, t, none⟩ = some (.int .i64 (u t)) ∧ w'.cell? ⟨w.heap.size + 1, f, none⟩ = some (.int .i64 (v f))) (by kernel_rfl) hS0 (fun hS => ?_)
        clear hS0
        refine wpAnyZ_take (i := 0) (v := ?vz0) rfl (by kernel_rfl) (by kernel_rfl) (by kernel_rfl) (by kernel_rfl) (fun _ _ _ h => h) (Or.inl ⟨by rfl, ?yz0⟩) (by with_reducible assumption) ?rz0
        case yz0 => (intro w hSw; (try dsimp only at hSw); go_simp; (try with_reducible rfl))
        simp only [Act.put, List.setIfInBounds_toArray]
        refine wpAnyZ_take (i := 1) (v := ?vz1) rfl (by kernel_rfl) (by kernel_rfl) (by kernel_rfl) (by kernel_rfl) (fun _ _ _ h => h) (Or.inl ⟨by rfl, ?yz1⟩) (by with_reducible assumption) ?rz1
        case yz1 => (intro w hSw; (try dsimp only at hSw); go_simp; (try with_reducible rfl))
        simp only [Act.put]
        refine wpAnyZ_take (i := 2) (v := ?vz2) rfl (by kernel_rfl) (by kernel_rfl) (by kernel_rfl) (by kernel_rfl) (fun _ _ _ h => h) (Or.inl ⟨by rfl, ?yz2⟩) (by with_reducible assumption) ?rz2
        case yz2 => (intro w hSw; (try dsimp only at hSw); go_simp; (try with_reducible rfl))
        simp only [Act.put]
        refine wpAnyZ_take (i := 3) (v := ?vz3) rfl (by kernel_rfl) (by kernel_rfl) (by kernel_rfl) (by kernel_rfl) (fun _ _ _ h => h) (Or.inl ⟨by rfl, ?yz3⟩) (by with_reducible assumption) ?rz3
        case yz3 => (intro w hSw; (try dsimp only at hSw); go_simp; (try with_reducible rfl))
        simp only [Act.put]
        refine wpAnyZ_take (i := 4) (v := ?vz4) rfl (by kernel_rfl) (by kernel_rfl) (by kernel_rfl) (by kernel_rfl) (fun _ _ _ h => h) (Or.inl ⟨by rfl, ?yz4⟩) (by with_reducible assumption) ?rz4
        case yz4 => (intro w hSw; (try dsimp only at hSw); go_simp; (try with_reducible rfl))
        simp only [Act.put]
        refine wpAnyZ_take (i := 5) (v := ?vz5) rfl (by kernel_rfl) (by kernel_rfl) (by kernel_rfl) (by kernel_rfl) (fun _ _ _ h => h) (Or.inl ⟨by rfl, ?yz5⟩) (by with_reducible assumption) ?rz5
        case yz5 => (intro w hSw; (try dsimp only at hSw); go_simp; (try with_reducible rfl))
        simp only [Act.put]
        refine wpAnyZ_take (i := 6) (v := ?vz6) rfl (by kernel_rfl) (by kernel_rfl) (by kernel_rfl) (by kernel_rfl) (fun _ _ _ h => h) (Or.inl ⟨by rfl, ?yz6⟩) (by with_reducible assumption) ?rz6
        case yz6 => (intro w hSw; (try dsimp only at hSw); go_simp; (try with_reducible rfl))
        simp only [Act.put]
        refine wpAnyZ_take (i := 7) (v := ?vz7) rfl (by kernel_rfl) (by kernel_rfl) (by kernel_rfl) (by kernel_rfl) (fun _ _ _ h => h) (Or.inl ⟨by rfl, ?yz7⟩) (by with_reducible assumption) ?rz7
        case yz7 => (intro w hSw; (try dsimp only at hSw); go_simp; (try with_reducible rfl))
        simp only [Act.put]
        refine wpAnyZ_take (i := 8) (v := ?vz8) rfl (by kernel_rfl) (by kernel_rfl) (by kernel_rfl) (by kernel_rfl) (fun _ _ _ h => h) (Or.inl ⟨by rfl, ?yz8⟩) (by with_reducible assumption) ?rz8
        case yz8 => (intro w hSw; (try dsimp only at hSw); go_simp; (try with_reducible rfl))
        simp only [Act.put]
        refine wpAnyZ_take (i := 9) (v := ?vz9) rfl (by kernel_rfl) (by kernel_rfl) (by kernel_rfl) (by kernel_rfl) (fun _ _ _ h => h) (Or.inl ⟨by rfl, ?yz9⟩) (by with_reducible assumption) ?rz9
        case yz9 => (intro w hSw; (try dsimp only at hSw); go_simp; (try with_reducible rfl))
        simp only [Act.put]
        refine wpAnyZ_take (i := 10) (v := ?vz10) rfl (by kernel_rfl) (by kernel_rfl) (by kernel_rfl) (by kernel_rfl) (fun _ _ _ h => h) (Or.inl ⟨by rfl, ?yz10⟩) (by with_reducible assumption) ?rz10
        case yz10 => (intro w hSw; (try dsimp only at hSw); go_simp; (try with_reducible rfl))
        simp only [Act.put]
        refine wpAnyZ_step (i := 11) (by kernel_rfl) rfl ?_
        intro K1 hK1
        go_simp
        refine (plus_any (v f) c _ (by omega) (by omega) c0 (by omega)).mono ?_
        rintro e w6 ⟨rfl, rfl⟩
        refine hK1.out _ _ hS (fun hS1 => ?_)
        clear hK1
        (try simp only [Act.put])
        refine wpAnyZ_step (i := 12) (by kernel_rfl) rfl ?_
        intro K2 hK2
        go_simp
        refine hK2.out _ _ hS1 (fun hS2 => ?_)
        clear hK2
        (try simp only [Act.put])
        refine wpAnyZ_take (i := 13) (v := ?vy13) rfl (by kernel_rfl) (by kernel_rfl) (by kernel_rfl) (by kernel_rfl) (fun _ _ _ h => h) (Or.inl ⟨by rfl, ?yy13⟩) (by with_reducible assumption) ?ry13
        case yy13 => (intro w hSw; (try dsimp only at hSw); go_simp; (try with_reducible rfl))
        simp only [Act.put]
        obtain ⟨z, hz⟩ : ∃ z, min (u t) (min (v f + c) 1000000) = z := ⟨_, rfl⟩
        have gf : w5.frozen? ⟨G, t, none⟩ = false := U5.out.frozen t
        have hg6 : w5.grownBy (w5.setCell ⟨G, t, none⟩ (.int .i64 z)).drew (some G) := grow_trans (grow_set w5 G t (.int .i64 z)) (grow_drew _ (some G))
        have RA6 := Lib.hid (RA5.out.kept hg6 (by intro e; cases e; omega) (by simp))
        have J6 := Lib.hid (J5.out.trans (Ins.of_grow (B := G) (T := G + 2) hg6 (fun j e => by cases e; omega)))
        have U6 : Hid (Blk (w5.setCell ⟨G, t, none⟩ (.int .i64 z)).drew G 68 (vecC (putV u t z))) := by
          have h := U5.out.set_ t (.int .i64 z)
          rw [vec_set u ht4] at h
          exact h
        have T6 : Hid (AftP F le v (strike left f le t) (putV u t z)) := by rw [← hz]; exact aft_take haf.out ht4 hFs hlf
        have I6 : Hid (InU (putV u t z)) := fun k => by
          have := (show InU u from hin.out) k
          have h2 := (show InU u from hin.out) t
          unfold putV
          split <;> omega
        rw [hz]
        clear hg6 hz P5 U5 C5 RA5 J5
        refine wpAnyZ_last (i := 14) (by kernel_rfl) rfl (by kernel_rfl) ?_
        intro K3 hK3
        go_simp
        refine hK3.out _ _ ?_
        clear hK3
        go_wp2_with fail
        go_roundw
        case rel => exact ⟨_, ⟨cn', by rw [← hs2]; exact RA6⟩, _, T6, I6, U6⟩
        case measure => rw [← hs2, RA6.out.left_eq]; exact HCN.out
      · have hbf := bytes_ne hle
        go_wp2_with fail
        go_roundw
        case rel =>
          rw [← hs2]
          exact ⟨_, _, _, _, _, _, _, _, _, _, _, _, _, _, _, _, _, _, _, _, _, _, _, _, _, ⟨_, cn', u, RA5, aft_skip haf.out hle, hin, U5, J5⟩, rfl⟩
        case measure => rw [RA5.out.left_eq]; exact HCN.out
end Go.Proofs.YtfdbbopanankgaaDoor
namespace Go.Proofs.YtfdbbopanankgaaDoor
open Go.RowKit
set_option maxHeartbeats 1000000
set_option linter.unusedVariables false

def KeepsAll (Z : Nat → Prop) (W W' : World) : Prop := W.heap.size ≤ W'.heap.size ∧ ∀ j, Z j → W'.heap[j]? = W.heap[j]?
theorem KeepsAll.trans {Z : Nat → Prop} {A B C : World} (h : KeepsAll Z A B) (k : KeepsAll Z B C) : KeepsAll Z A C := ⟨Nat.le_trans h.1 k.1, fun j hj => (k.2 j hj).trans (h.2 j hj)⟩
theorem KeepsAll.imp {Z Z' : Nat → Prop} {A B : World} (h : KeepsAll Z A B) (hi : ∀ j, Z' j → Z j) : KeepsAll Z' A B := ⟨h.1, fun j hj => h.2 j (hi j hj)⟩

/-- What an iterator owes that owns the blocks X and reads those of Y. -/
def SeqOwn {α : Type} (F : Fence) (n : Nat) (P : Program) (g : Nat) (lb : Array Value) (encs : α → Array Value) (Y : Nat → Prop) (S : List α → Prop) (N : Nat) (w : World) : Prop :=
  ∀ (l : Nat) (J : List Nat → List α → World → Prop) (W : World), Below w.heap.size w W →
    (∀ X s A D row, J X s A → A.grownBy D row → (∀ r, row = some r → r ∈ X) → J X s D) →
    (∀ X s A D j, J X s A → A.grownBy D none → A.heap.size ≤ j → j < D.heap.size → J (j :: X) s D) →
    (∀ X pre x W1, J X pre W1 → pre.length < N → YieldAt F (n - 1) P l (encs x) W1 fun e W' => e = .returned (.bool true) ∧ J X (pre ++ [x]) W' ∧ KeepsAll (fun j => j ∈ X ∨ Y j) W1 W') →
    J [] [] W →
    CallsIn F n P g (#[.func (.yield l) #[] #[]] ++ lb) W fun e W' => (∃ v, e = .returned v) ∧ ∃ X xs, S xs ∧ J X xs W'

/-- How the body of a round is left: it goes on. -/
def overPost {α : Type} (B : Nat) (Y : Nat → Prop) (I : List Nat → List α → World → Prop) (X : List Nat) (xs : List α) (W : World) : Exit → Act → World → Prop
  | .normal, _, W' => KeepsAll (fun j => j ∈ X ∨ Y j ∨ j = B ∨ j = B + 1) W W' ∧ I X xs W'
  | .ret, _, _ => False
  | .exit _, _, _ => False
  | .goto _, _, _ => False
  | .panic _, _, _ => False
  | .outgrown, _, _ => False

theorem wpIn_over {F : Fence} {n : Nat} {P : Program} {α : Type} {g : Operand} {ps : Array Tmp} {assign body : Code} {Q : Exit → Act → World → Prop} {a : Act} {w : World}
    (hro : F.round = none) (h1 : 1 ≤ n) {gf : Nat} {lb : Array Value} (hg : a.eval g = .func (.func gf) #[] lb) (hFg : F.fn gf) (eg : ∀ args w, (callFunc gf args).run P w = .ok (.enter gf args) w)
    {encs : α → Array Value} {Y : Nat → Prop} {S : List α → Prop} {N : Nat} {w0 : World} (hseq : SeqOwn F (n - 1) P gf lb encs Y S N w0) (hY : ∀ j, Y j → j < w.heap.size)
    (hb0 : Below w0.heap.size w0 w) (hps : ∀ x, (encs x).size = ps.size)
    (I : List Nat → List α → World → Prop)
    (hI : ∀ X s A D row, I X s A → A.grownBy D row → (∀ r, row = some r → r ∈ X ∨ r = w.heap.size ∨ r = w.heap.size + 1) → I X s D)
    (hN : ∀ X s A D j, I X s A → A.grownBy D none → A.heap.size ≤ j → j < D.heap.size → I (j :: X) s D)
    (h0 : I [] [] w) (Ax : List Nat → List α → α → Act → World → Prop)
    (hAx : ∀ X pre x a' A D, Ax X pre x a' A → A.grownBy D (some (w.heap.size + 1)) → Ax X pre x a' D)
    (hassign : ∀ (l : Nat) (X : List Nat) (pre : List α) (x : α) (W : World) (K : Act → World → Prop), I X pre W → (∀ j ∈ X, w.heap.size + 2 ≤ j ∧ j < W.heap.size) → w.heap.size + 2 ≤ W.heap.size → pre.length < N →
      (∀ a' W', Ax X pre x a' W' → KeepsAll (fun j => j ∈ X ∨ Y j ∨ j = w.heap.size ∨ j = w.heap.size + 1) W W' → K a' W') →
      assign.wpIn (F.inRound l) (n - 1 - 1) P (Exit.then K (fun _ _ _ => False)) { tmps := (ps.zip (encs x)).foldl (fun t (p, v) => t.setIfInBounds p v) a.tmps, defers := [] } W)
    (hbody : ∀ (l : Nat) (X : List Nat) (pre : List α) (x : α) (a' : Act) (W : World), Ax X pre x a' W → (∀ j ∈ X, w.heap.size + 2 ≤ j ∧ j < W.heap.size) → w.heap.size + 2 ≤ W.heap.size → pre.length < N →
      body.wpIn (F.inRound l) (n - 1 - 1) P (overPost w.heap.size Y I X (pre ++ [x]) W) a' W)
    (hdone : ∀ (X : List Nat) (xs : List α) (W : World), S xs → I X xs W → W.heap[w.heap.size]? = some (.deferred (some [])) → Q .normal { a with defers := { target := .collected w.heap.size, args := #[] } :: a.defers } W) :
    (Code.rangeFunc g ps assign body).wpIn F n P Q a w := by
  refine wpIn_rangeFunc ?_
  intro fn hfn
  rw [hro]
  obtain ⟨rec, hrec⟩ : ∃ rec : LoopState → Option Code → Loop, rec = fun st pe => { state := st, pending := pe, fn, tmps := a.tmps, params := ps, assign, body, defers := w.heap.size } := ⟨_, rfl⟩
  obtain ⟨W1, hW1⟩ : ∃ W1, (w.alloc (.deferred (some []))).alloc (.loop (rec .ready none)) = W1 := ⟨_, rfl⟩
  have hs1 : W1.heap.size = w.heap.size + 2 := by rw [← hW1]; simp
  have hL1 : W1.heap[w.heap.size + 1]? = some (.loop (rec .ready none)) := by
    rw [← hW1]; have := World.alloc_heap_new (w.alloc (.deferred (some []))) (.loop (rec .ready none)); rwa [World.size_alloc] at this
  have hK1 : W1.heap[w.heap.size]? = some (.deferred (some [])) := by
    rw [← hW1]; exact (Below.heap_alloc _ _ _ (by simp)).trans (World.alloc_heap_new w _)
  have hI1 : I [] [] W1 := by
    rw [← hW1]
    exact hI _ _ _ _ none (hI _ _ _ _ none h0 (World.grownBy_alloc w _ none) (fun r e => by cases e)) (World.grownBy_alloc _ _ none) (fun r e => by cases e)
  have hb1 : Below w0.heap.size w0 W1 := by
    rw [← hW1]; exact hb0.trans ((((Below.refl _ w).alloc (Nat.le_refl _) _).alloc (by simp) _).mono hb0.size)
  refine ⟨w.heap.size + 1, [{ target := .collected w.heap.size, args := #[] }], W1, { target := .fn (.func gf) lb, args := #[.func (.yield (w.heap.size + 1)) #[] #[]] }, W1, gf,
    #[.func (.yield (w.heap.size + 1)) #[] #[]] ++ lb, W1, ?_, ?_, ?_, ?_, fun _ => h1, ?_⟩
  · rw [← hW1, hrec]; exact run_enterLoop_outer _ _ _ _ _
  · simp only [resolve, hg]
    simp [go_sem]
  · intro f' hf'; simp [Target.leads] at hf'; subst hf'; exact hFg
  · simp [invoke, go_sem, eg]
  · refine (hseq (w.heap.size + 1)
      (fun X pre W => I X pre W ∧ W.heap[w.heap.size + 1]? = some (.loop (rec .ready none)) ∧ W.heap[w.heap.size]? = some (.deferred (some [])) ∧ ∀ j ∈ X, w.heap.size + 2 ≤ j ∧ j < W.heap.size)
      W1 hb1
      (fun X s A D row hs hg' hr => by
        obtain ⟨h1, h2, h3, h4⟩ := hs
        have ne : ∀ k, k < w.heap.size + 2 → some k ≠ row := fun k hk e => by have := (h4 k (hr k e.symm)).1; omega
        exact ⟨hI X s A D row h1 hg' (fun r e => .inl (hr r e)), (hg'.block _ (Array.getElem?_eq_some_iff.1 h2).1 (ne _ (by omega))).trans h2, (hg'.block _ (Array.getElem?_eq_some_iff.1 h3).1 (ne _ (by omega))).trans h3, fun j hj => ⟨(h4 j hj).1, Nat.lt_of_lt_of_le (h4 j hj).2 hg'.size⟩⟩)
      (fun X s A D j hs hg' hj1 hj2 => by
        obtain ⟨h1, h2, h3, h4⟩ := hs
        have hlt := (Array.getElem?_eq_some_iff.1 h2).1
        exact ⟨hN X s A D j h1 hg' hj1 hj2, (hg'.block _ hlt (by simp)).trans h2, (hg'.block _ (Array.getElem?_eq_some_iff.1 h3).1 (by simp)).trans h3, fun i hi => by
          rcases List.mem_cons.1 hi with rfl | hi
          · exact ⟨by omega, hj2⟩
          · exact ⟨(h4 i hi).1, Nat.lt_of_lt_of_le (h4 i hi).2 hg'.size⟩⟩)
      ?_ ⟨hI1, hL1, hK1, fun j hj => by cases hj⟩).mono ?_
    · rintro X pre x W ⟨hi, hl, hk, hX⟩ hlen
      have hlt : w.heap.size + 1 < W.heap.size := (Array.getElem?_eq_some_iff.1 hl).1
      have hy := run_yield (P := P) (args := encs x) hl (by rw [hrec]; exact hps x)
      rw [hrec] at hy
      refine ⟨fn, _, assign, body, hy, roundIn_of_wpIn hfn (hassign _ X pre x W _ hi hX (by omega) hlen (fun a' Wa hax hka => ?_))⟩
      have hla : Wa.heap[w.heap.size + 1]? = some (.loop (rec .ready none)) := (hka.2 _ (.inr (.inr (.inr rfl)))).trans hl
      have hkk : Wa.heap[w.heap.size]? = some (.deferred (some [])) := (hka.2 _ (.inr (.inr (.inl rfl)))).trans hk
      have hlta : w.heap.size + 1 < Wa.heap.size := (Array.getElem?_eq_some_iff.1 hla).1
      refine ⟨_, run_beginRound hla (by rw [hrec]), ?_⟩
      obtain ⟨V, hV⟩ : ∃ V, Wa.putObj (w.heap.size + 1) (.loop { rec .ready none with state := .busy }) = V := ⟨_, rfl⟩
      have hgV : Wa.grownBy V (some (w.heap.size + 1)) := by rw [← hV]; exact grownBy_putObj' Wa _ _
      have hl2 : V.heap[w.heap.size + 1]? = some (.loop { rec .ready none with state := .busy }) := by rw [← hV]; exact World.putObj_heap_same hlta
      have hk2 : V.heap[w.heap.size]? = some (.deferred (some [])) := (hgV.block _ (by omega) (fun e => by have := Option.some.inj e; omega)).trans hkk
      have hsa : W.heap.size ≤ Wa.heap.size := hka.1
      have hsV : W.heap.size ≤ V.heap.size := Nat.le_trans hsa hgV.size
      rw [hV]
      refine wpIn_mono (hbody _ X pre x a' V (hAx _ _ _ _ _ _ hax hgV) (fun j hj => ⟨(hX j hj).1, Nat.lt_of_lt_of_le (hX j hj).2 hsV⟩) (by omega) hlen) ?_
      rintro e a3 W3 hp
      cases e with
      | normal =>
        obtain ⟨hk3, hi3⟩ := hp
        have hl3 : W3.heap[w.heap.size + 1]? = some (.loop { rec .ready none with state := .busy }) := (hk3.2 _ (.inr (.inr (.inr rfl)))).trans hl2
        have hK3 : W3.heap[w.heap.size]? = some (.deferred (some [])) := (hk3.2 _ (.inr (.inr (.inl rfl)))).trans hk2
        have hlt3 := (Array.getElem?_eq_some_iff.1 hl3).1
        have hr := run_endRound (P := P) none hl3
        obtain ⟨U, hU⟩ : ∃ U, W3.putObj (w.heap.size + 1) (.loop { ({ rec .ready none with state := .busy } : Loop) with state := if (none : Option Code).isNone then .ready else .done, pending := none }) = U := ⟨_, rfl⟩
        have hgU : W3.grownBy U (some (w.heap.size + 1)) := by rw [← hU]; exact grownBy_putObj' W3 _ _
        have hlU : U.heap[w.heap.size + 1]? = some (.loop (rec .ready none)) := by rw [← hU, World.putObj_heap_same hlt3, hrec]; rfl
        rw [hU] at hr
        refine ⟨_, _, hr, rfl, ⟨hI X _ W3 U _ hi3 hgU (fun r e => by cases e; exact .inr (.inr rfl)), hlU, (hgU.block _ (by omega) (fun e => by have := Option.some.inj e; omega)).trans hK3, fun j hj => ⟨(hX j hj).1, ?_⟩⟩, ?_⟩
        · have := (hX j hj).2; have := hk3.1; have := hgU.size; omega
        · refine ⟨by have := hk3.1; have := hgU.size; omega, fun j hj => ?_⟩
          have hj2 : j ≠ w.heap.size + 1 ∧ j < W.heap.size := by
            rcases hj with hj | hj
            · have := hX j hj; exact ⟨by omega, this.2⟩
            · have := hY j hj; exact ⟨by omega, by omega⟩
          have e0 := hka.2 j (by rcases hj with hj | hj; exact .inl hj; exact .inr (.inl hj))
          have e1 := (hgV.block j (by omega) (fun e => hj2.1 (Option.some.inj e))).trans e0
          have e2 := hk3.2 j (by rcases hj with hj | hj; exact .inl hj; exact .inr (.inl hj))
          have e3 := hgU.block j (by have := hk3.1; omega) (fun e => hj2.1 (Option.some.inj e))
          exact e3.trans (e2.trans e1)
      | ret => exact hp.elim
      | exit id => exact hp.elim
      | goto t => exact hp.elim
      | panic ch => exact hp.elim
      | outgrown => exact hp.elim
    · rintro e W2 ⟨⟨v, rfl⟩, X, xs, hS, hi, hl, hk, hX⟩
      refine ⟨none, _, by have := run_endLoop (P := P) hl (by rw [hrec]; simp); rw [hrec] at this; exact this, hdone X xs _ hS (hI X xs W2 _ _ hi (grownBy_putObj' W2 _ _) (fun r e => by cases e; exact .inr (.inr rfl))) ?_⟩
      exact (World.putObj_heap_other (by omega)).trans hk
end Go.Proofs.YtfdbbopanankgaaDoor
namespace Go.Proofs.YtfdbbopanankgaaDoor
open Go.RowKit Go.Shelf
attribute [local go_sem] Oper.semAt_some
set_option maxHeartbeats 4000000
set_option maxRecDepth 100000
set_option linter.unusedVariables false

def alongs (n : Nat) (ss : List StepD) (xs : List Int) (l : List UInt8) (k : Nat) : List VF := (List.range k).map (fun i => alongV n ss xs (l.take i))
theorem alongs_snoc (n : Nat) (ss : List StepD) (xs : List Int) (l : List UInt8) (k : Nat) : alongs n ss xs l (k + 1) = alongs n ss xs l k ++ [alongV n ss xs (l.take k)] := by
  unfold alongs
  rw [List.range_succ, List.map_append]; rfl
theorem alongs_len (n : Nat) (ss : List StepD) (xs : List Int) (l : List UInt8) (k : Nat) : (alongs n ss xs l k).length = k := by
  unfold alongs; simp

theorem grown_of_below {w w' : World} (h : Below w.heap.size w w') : w.grownBy w' none := ⟨h.os, h.tape, h.output, h.size, fun i hi _ => h.block i hi⟩

theorem along_seq (n M cnt mb wb m : Nat) (b0 b1 b2 b3 b4 b5 b6 b7 : Bool) (xs : List Int) (ss : List StepD) (s : ByteArray) (w : World) (n2 : n ≤ 4) (hm : 2 ≤ m) (hx : ∀ x ∈ xs, 0 ≤ x ∧ x < (n : Int)) (hok : ∀ s ∈ ss, stepOk n s = true) (hs : s.size ≤ 1000) (hw : s.data.toList.all isAB = true)
    (hset : setC xs = #[.bool b0, .bool b1, .bool b2, .bool b3]) (hmb : Blk w mb 45 #[.int .i64 n, .bool b0, .bool b1, .bool b2, .bool b3, .bool b4, .bool b5, .bool b6, .bool b7, .map (some M)]) (hwb : Blk w wb 9 #[.string s]) (hM : CMap w M cnt (costAt ss)) :
    SeqOwn Fence.wide m Tryd.prog 49 #[.pointer (some ⟨mb, 0, none⟩), .pointer (some ⟨wb, 0, none⟩)] (fun v => #[.agg (vecC v)]) (fun j => j = mb ∨ j = wb ∨ j = M) (fun vs => vs = alongs n ss xs s.data.toList (s.size + 1)) (s.size + 1) w := by
  intro l J W hW hJ hN hY h0
  have A0 := Lib.hid (hmb.below hW (Blk.lt hmb))
  have S0 := Lib.hid (hwb.below hW (Blk.lt hwb))
  have M0 := Lib.hid (hM.below hW)
  have h1 : 1 ≤ m := by omega
  have HJ := Lib.hid hJ
  have HN := Lib.hid hN
  have HY := Lib.hid hY
  have HOK := Lib.hid hok
  have HW := Lib.hid hw
  have HX := Lib.hid hset
  have H0 := Lib.hid h0
  have hA := A0.out
  have a1 := hA.cell 1
  have a2 := hA.cell 2
  have a3 := hA.cell 3
  have a4 := hA.cell 4
  simp at a1 a2 a3 a4
  clear hmb hwb hM hW hJ hN hY hok hw hset h0 hA
  refine callsIn_of_wp Tryd.func49 rfl trivial ?_ rfl
  simp only [Tryd.ntmps49, List.size_toArray, List.length_cons, List.length_nil, Nat.reduceAdd, Nat.reduceSub, Array.replicate_succ, Array.replicate_zero, List.push_toArray, List.append_toArray, List.nil_append, List.cons_append]
  gi_wp2_with fail
  refine ⟨trivial, ?_⟩
  rw [← HX.out]
  refine (callsIn_wide.2 (startCosts_any xs _)).mono ?_
  rintro e W1 ⟨rfl, hb1⟩
  have A1 := Lib.hid (A0.out.below hb1 (Blk.lt A0.out))
  have S1 := Lib.hid (S0.out.below hb1 (Blk.lt S0.out))
  have M1 := Lib.hid (M0.out.below hb1)
  have J1 := Lib.hid (HJ.out _ _ _ _ none H0.out (grown_of_below hb1) (fun r e => by cases e))
  obtain ⟨v0, hv0⟩ : ∃ v, startV xs = v := ⟨_, rfl⟩
  rw [hv0]
  have V0 : Hid (alongV n ss xs (s.data.toList.take 0) = v0) := by
    show _ = _
    rw [← hv0]; rfl
  unfold vecC
  have J2 := Lib.hid (HN.out _ _ _ (W1.alloc (.cells #[.int .i64 (v0 0), .int .i64 (v0 1), .int .i64 (v0 2), .int .i64 (v0 3)] 68)) W1.heap.size J1.out (World.grownBy_alloc _ _ _) (Nat.le_refl _) (by simp))
  have C2 : Hid (Blk (W1.alloc (.cells #[.int .i64 (v0 0), .int .i64 (v0 1), .int .i64 (v0 2), .int .i64 (v0 3)] 68)) W1.heap.size 68 #[.int .i64 (v0 0), .int .i64 (v0 1), .int .i64 (v0 2), .int .i64 (v0 3)]) := Blk.new _ _ _
  have A2 := Lib.hid (A1.out.alloc (.cells #[.int .i64 (v0 0), .int .i64 (v0 1), .int .i64 (v0 2), .int .i64 (v0 3)] 68))
  have S2 := Lib.hid (S1.out.alloc (.cells #[.int .i64 (v0 0), .int .i64 (v0 1), .int .i64 (v0 2), .int .i64 (v0 3)] 68))
  have M2 := Lib.hid (M1.out.kept (World.grownBy_alloc W1 (.cells #[.int .i64 (v0 0), .int .i64 (v0 1), .int .i64 (v0 2), .int .i64 (v0 3)] 68) none) (by simp))
  have hmC : mb < W1.heap.size := Blk.lt A1.out
  have hwC : wb < W1.heap.size := Blk.lt S1.out
  have hMC : M < W1.heap.size := M1.out.lt
  clear A0 S0 M0 H0 hb1 a1 a2 a3 a4 HX hv0 A1 S1 M1 J1
  gi_wp2_with fail
  obtain ⟨C, hC⟩ : ∃ C, C = W1.heap.size := ⟨_, rfl⟩
  rw [← hC] at C2 J2 hmC hwC hMC ⊢
  have hC2 : C < (W1.alloc (.cells #[.int .i64 (v0 0), .int .i64 (v0 1), .int .i64 (v0 2), .int .i64 (v0 3)] 68)).heap.size := Blk.lt C2.out
  generalize W1.alloc (.cells #[.int .i64 (v0 0), .int .i64 (v0 1), .int .i64 (v0 2), .int .i64 (v0 3)] 68) = W2 at *
  clear hC
  obtain ⟨fn, tmps, assign, body, hy, hR⟩ := HY.out _ _ v0 _ J2.out (by simp)
  unfold vecC at hy
  rw [hy]
  gi_wp2_with fail
  refine hR.mono ?_
  rintro e W3 ⟨rfl, hJ3, hk3⟩
  have J3 := Lib.hid hJ3
  have C3 := Lib.hid (Blk.trans_ (hk3.2 C (Or.inl (by simp))) C2.out)
  have A3 := Lib.hid (Blk.trans_ (hk3.2 mb (Or.inr (Or.inl rfl))) A2.out)
  have S3 := Lib.hid (Blk.trans_ (hk3.2 wb (Or.inr (Or.inr (Or.inl rfl)))) S2.out)
  have M3 := Lib.hid (M2.out.same (hk3.2 M (Or.inr (Or.inr (Or.inr rfl)))))
  have hC3 : C < W3.heap.size := Blk.lt C3.out
  have s0 := S3.out.cell 0
  simp at s0
  clear hy hR hJ3 hk3 J2 C2 A2 S2 M2 hC2 fn tmps assign body
  gi_wp2_with fail
  obtain ⟨R, hR⟩ : ∃ R, R = W3.heap.size := ⟨_, rfl⟩
  have J4 : Hid (J [R, C] [v0] (W3.iter s 0)) := HN.out _ _ _ _ R J3.out (World.grownBy_alloc W3 (.stringIter s 0) none) (by omega) (by simp [World.iter]; omega)
  have C4 : Hid (Blk (W3.iter s 0) C 68 (vecC v0)) := Blk.alloc C3.out _
  have A4 : Hid (Blk (W3.iter s 0) mb 45 #[.int .i64 n, .bool b0, .bool b1, .bool b2, .bool b3, .bool b4, .bool b5, .bool b6, .bool b7, .map (some M)]) := Blk.alloc A3.out _
  have S4 : Hid (Blk (W3.iter s 0) wb 9 #[.string s]) := Blk.alloc S3.out _
  have M4 : Hid (CMap (W3.iter s 0) M cnt (costAt ss)) := M3.out.kept (World.grownBy_alloc W3 (.stringIter s 0) none) (by simp)
  have I4 : Hid ((W3.iter s 0).heap[R]? = some (.stringIter s 0)) := by
    show _ = _
    rw [hR]; exact heap_alloc_new W3 (.stringIter s 0)
  have hCR : C < R := by omega
  rw [← hR]
  generalize W3.iter s 0 = W4 at *
  clear hR J3 C3 A3 S3 M3 hC3 s0
  gi_loopw [6] (fun _ wr => ∃ (k : Nat), k ≤ s.size ∧ Hid (wr.heap[R]? = some (.stringIter s k)) ∧ Hid (Blk wr C 68 (vecC (alongV n ss xs (s.data.toList.take k)))) ∧ Hid (J [R, C] (alongs n ss xs s.data.toList (k + 1)) wr) ∧ Hid (Blk wr mb 45 #[.int .i64 n, .bool b0, .bool b1, .bool b2, .bool b3, .bool b4, .bool b5, .bool b6, .bool b7, .map (some M)]) ∧ Hid (Blk wr wb 9 #[.string s]) ∧ Hid (CMap wr M cnt (costAt ss))) (fun _ wr => s.size - wr.iterPos R)
  case atStart =>
    refine ⟨0, Nat.zero_le _, I4, ?_, ?_, A4, S4, M4⟩
    · rw [V0.out]; exact C4
    · show J _ (alongs n ss xs s.data.toList 1) W4
      have e : alongs n ss xs s.data.toList 1 = [v0] := by rw [← V0.out]; rfl
      rw [e]; exact J4.out
  case round =>
    obtain ⟨k, hk, hit, hc, hj, ha, hsb, hm4⟩ := hrel
    have hmu : wr.iterPos R = k := by simp [World.iterPos, hit.out]
    have HMU := Lib.hid hmu
    clear hmu
    by_cases hlt : k < s.size
    · obtain ⟨c, hcc⟩ : ∃ c, s[k]'hlt = c := ⟨_, rfl⟩
      have hab := word_at HW.out hlt
      have hsm := ab_small hab
      have hnx := fun ty => Lib.run_next_ascii_at (P := Tryd.prog) wr R s k ty hit.out hlt hsm
      rw [hcc] at hab hnx
      have hcv := conv_ltr hab
      have HTK := Lib.hid (take_snoc_b hlt)
      rw [hcc] at HTK
      have hgi : wr.grownBy (wr.iterAt R s (k + 1)) (some R) := ⟨rfl, rfl, rfl, by rw [Lib.iterAt_size]; exact Nat.le_refl _, fun j _ hne => Lib.iterAt_other wr R j s (k + 1) (fun e => hne (by rw [e]))⟩
      have C5 := Lib.hid (Blk.stay hc.out hgi (by intro e; cases e; omega))
      have A5 := Lib.hid (Blk.stay ha.out hgi (by intro e; cases e; omega))
      have S5 := Lib.hid (Blk.stay hsb.out hgi (by intro e; cases e; omega))
      have M5 := Lib.hid (hm4.out.kept hgi (by intro e; cases e; omega))
      have J5 := Lib.hid (HJ.out _ _ _ _ _ hj.out hgi (fun r e => by cases e; simp))
      have I5 := Lib.hid (Lib.iterAt_heap wr R s k (k + 1) hit.out)
      clear hit hc hj ha hsb hm4 hsm hcc hab hgi
      generalize wr.iterAt R s (k + 1) = W5 at *
      obtain ⟨v, hv⟩ : ∃ v, alongV n ss xs (s.data.toList.take k) = v := ⟨_, rfl⟩
      have HIV : Hid (InV n v) := by rw [← hv]; exact alongV_in hx HOK.out _
      have HV := Lib.hid hv
      rw [hv] at C5
      have hA := A5.out
      have a0 := hA.cell 0
      have a1 := hA.cell 1
      have a2 := hA.cell 2
      have a3 := hA.cell 3
      have a4 := hA.cell 4
      have a5 := hA.cell 5
      have a6 := hA.cell 6
      have a7 := hA.cell 7
      have a8 := hA.cell 8
      have a9 := hA.cell 9
      simp at a0 a1 a2 a3 a4 a5 a6 a7 a8 a9
      obtain ⟨c0, c1, c2, c3⟩ := four_cells C5.out
      have hR5 := (Array.getElem?_eq_some_iff.1 I5.out).1
      clear hv hA
      gi_wp2_with fail
      refine ⟨trivial, ?_⟩
      refine (callsIn_wide.2 (after_any n M cnt b0 b1 b2 b3 b4 b5 b6 b7 ss v (ltr c) W5 n2 HOK.out (by unfold maxLen; show 1 ≤ _; omega) HIV.out M5.out)).mono ?_
      rintro e W6 ⟨rfl, hb6⟩
      obtain ⟨v1, hv1⟩ : ∃ v1, nextV n (cellF (costAt ss) (ltr c)) v = v1 := ⟨_, rfl⟩
      have V1 : Hid (alongV n ss xs (s.data.toList.take (k + 1)) = v1) := by
        show _ = _
        rw [HTK.out, alongV_snoc, HV.out, hv1]
      rw [hv1]
      have hg6 := grown_of_below hb6
      have C6 := Lib.hid (C5.out.stay hg6 (by simp))
      have J6 := Lib.hid (HJ.out _ _ _ _ _ J5.out hg6 (fun r e => by cases e))
      have hgs : W6.grownBy ((((W6.setCell ⟨C, 0, none⟩ (.int .i64 (v1 0))).setCell ⟨C, 1, none⟩ (.int .i64 (v1 1))).setCell ⟨C, 2, none⟩ (.int .i64 (v1 2))).setCell ⟨C, 3, none⟩ (.int .i64 (v1 3))) (some C) := grow_trans (grow_trans (grow_trans (grow_set _ C 0 _) (grow_set _ C 1 _)) (grow_set _ C 2 _)) (grow_set _ C 3 _)
      have A7 := Lib.hid ((A5.out.stay hg6 (by simp)).stay hgs (by intro e; cases e; omega))
      have S7 := Lib.hid ((S5.out.stay hg6 (by simp)).stay hgs (by intro e; cases e; omega))
      have M7 := Lib.hid ((M5.out.kept hg6 (by simp)).kept hgs (by intro e; cases e; omega))
      have J7 := Lib.hid (HJ.out _ _ _ _ _ J6.out hgs (fun r e => by cases e; simp))
      have I6 := (hg6.block R hR5 (by simp)).trans I5.out
      have I7 := Lib.hid ((hgs.block R (Array.getElem?_eq_some_iff.1 I6).1 (by intro e; cases e; omega)).trans I6)
      have C7 : Hid (Blk ((((W6.setCell ⟨C, 0, none⟩ (.int .i64 (v1 0))).setCell ⟨C, 1, none⟩ (.int .i64 (v1 1))).setCell ⟨C, 2, none⟩ (.int .i64 (v1 2))).setCell ⟨C, 3, none⟩ (.int .i64 (v1 3))) C 68 (vecC v1)) := by
        have h := (((C6.out.set_ 0 (.int .i64 (v1 0))).set_ 1 (.int .i64 (v1 1))).set_ 2 (.int .i64 (v1 2))).set_ 3 (.int .i64 (v1 3))
        exact h
      obtain ⟨f0, f1, f2, f3⟩ := four_frozen C6.out
      obtain ⟨d0, d1, d2, d3⟩ := four_cells C6.out
      unfold vecC
      clear hv1 hb6 hg6 hgs C5 A5 S5 M5 J5 I5 J6 I6 a0 a1 a2 a3 a4 a5 a6 a7 a8 a9 c0 c1 c2 c3 hR5 hnx hcv
      gi_wp2_with fail
      obtain ⟨fn, tmps, assign, body, hy, hRd⟩ := HY.out _ _ v1 _ J7.out (by rw [alongs_len]; omega)
      unfold vecC at hy
      rw [hy]
      clear d0 d1 d2 d3 f0 f1 f2 f3 C6
      gi_wp2_with fail
      refine hRd.mono ?_
      rintro e W8 ⟨rfl, hJ8, hk8⟩
      have J8 : Hid (J [R, C] (alongs n ss xs s.data.toList (k + 1 + 1)) W8) := by
        show J _ _ _
        rw [alongs_snoc, V1.out]; exact hJ8
      have C8 : Hid (Blk W8 C 68 (vecC (alongV n ss xs (s.data.toList.take (k + 1))))) := by
        show Blk _ _ _ _
        rw [V1.out]; exact Blk.trans_ (hk8.2 C (Or.inl (by simp))) C7.out
      have A8 := Lib.hid (Blk.trans_ (hk8.2 mb (Or.inr (Or.inl rfl))) A7.out)
      have S8 := Lib.hid (Blk.trans_ (hk8.2 wb (Or.inr (Or.inr (Or.inl rfl)))) S7.out)
      have M8 := Lib.hid (M7.out.same (hk8.2 M (Or.inr (Or.inr (Or.inr rfl)))))
      have I8 := Lib.hid ((hk8.2 R (Or.inl (by simp))).trans I7.out)
      have hm8 : W8.iterPos R = k + 1 := by simp [World.iterPos, I8.out]
      clear hy hRd hJ8 hk8 J7 C7 A7 S7 M7 I7 fn tmps assign body
      gi_wp2_with fail
      go_roundw
      case rel => exact ⟨k + 1, by omega, I8, C8, J8, A8, S8, M8⟩
      case measure => rw [hm8, HMU.out]; omega
    · have hnx := fun ty => Lib.run_next_end_at (P := Tryd.prog) wr R s k ty hit.out hlt
      have hkl : k = s.size := by omega
      subst hkl
      gi_wp2_with fail
      go_end0
      exact ⟨⟨_, rfl⟩, [R, C], _, rfl, hj.out⟩
end Go.Proofs.YtfdbbopanankgaaDoor
namespace Go.Proofs.YtfdbbopanankgaaDoor
open Go.RowKit Go.Shelf
attribute [local go_sem] Oper.semAt_some
set_option maxHeartbeats 4000000
set_option maxRecDepth 100000
set_option linter.unusedVariables false

def lastV (vs : List VF) : VF := vs.getLastD (fun _ => 0)
theorem lastV_snoc (vs : List VF) (v : VF) : lastV (vs ++ [v]) = v := by unfold lastV; simp [List.getLastD_eq_getLast?]
theorem along_any (n M : Nat) (b0 b1 b2 b3 b4 b5 b6 b7 : Bool) (s : ByteArray) (w : World) :
    Calls Tryd.prog 31 #[.agg #[.int .i64 n, .bool b0, .bool b1, .bool b2, .bool b3, .bool b4, .bool b5, .bool b6, .bool b7, .map (some M)], .string s] w fun e w' => e = .returned (.func (.func 49) #[] #[.pointer (some ⟨w.heap.size, 0, none⟩), .pointer (some ⟨w.heap.size + 1, 0, none⟩)]) ∧ w' = (w.alloc (.cells #[.int .i64 n, .bool b0, .bool b1, .bool b2, .bool b3, .bool b4, .bool b5, .bool b6, .bool b7, .map (some M)] 45)).alloc (.cells #[.string s] 9) := by
  go_enter Tryd.func31, Tryd.ntmps31
  go_wp2_with fail
  go_ret
  exact ⟨rfl, rfl⟩

theorem costOf_any (n M cnt : Nat) (b0 b1 b2 b3 b4 b5 b6 b7 : Bool) (xs ys : List Int) (ss : List StepD) (s : ByteArray) (w : World) (n2 : n ≤ 4) (hx : ∀ x ∈ xs, 0 ≤ x ∧ x < (n : Int)) (hok : ∀ s ∈ ss, stepOk n s = true) (hs : s.size ≤ 1000) (hw : s.data.toList.all isAB = true)
    (hset : setC xs = #[.bool b0, .bool b1, .bool b2, .bool b3]) (hfin : setC ys = #[.bool b4, .bool b5, .bool b6, .bool b7]) (hM : CMap w M cnt (costAt ss)) :
    Calls Tryd.prog 17 #[.agg #[.int .i64 n, .bool b0, .bool b1, .bool b2, .bool b3, .bool b4, .bool b5, .bool b6, .bool b7, .map (some M)], .string s] w fun e w' => e = .returned (.int .i64 (costF n xs ys ss s.data.toList)) ∧ Below w.heap.size w w' := by
  have HOK := Lib.hid hok
  have HX := Lib.hid hx
  have HW := Lib.hid hw
  have HS := Lib.hid hset
  have HF := Lib.hid hfin
  have MM := Lib.hid hM
  have hMw := hM.lt
  clear hok hx hw hset hfin hM
  refine (callsIn_wide (n := 4)).1 ?_
  refine callsIn_of_wp_marks Tryd.func17 rfl trivial ?_ rfl
  simp only [Tryd.ntmps17, List.size_toArray, List.length_cons, List.length_nil, Nat.reduceAdd, Nat.reduceSub, Array.replicate_succ, Array.replicate_zero, List.push_toArray, List.append_toArray, List.nil_append, List.cons_append]
  gi_wp2_with fail
  refine ⟨trivial, ?_⟩
  refine (callsIn_wide.2 (along_any n M b0 b1 b2 b3 b4 b5 b6 b7 s _)).mono ?_
  rintro e W0 ⟨rfl, hW0⟩
  simp only [World.size_alloc] at hW0 ⊢
  have mA : Hid (Blk W0 w.heap.size 45 #[.int .i64 n, .bool b0, .bool b1, .bool b2, .bool b3, .bool b4, .bool b5, .bool b6, .bool b7, .map (some M)]) := by rw [hW0]; exact (((Blk.new w _ _).alloc _).alloc _).alloc _
  have mL : Hid (Blk W0 (w.heap.size + 1) 68 #[.int .i64 0, .int .i64 0, .int .i64 0, .int .i64 0]) := by rw [hW0]; exact ((blk_new (by simp)).alloc _).alloc _
  have mB : Hid (Blk W0 (w.heap.size + 1 + 1) 45 #[.int .i64 n, .bool b0, .bool b1, .bool b2, .bool b3, .bool b4, .bool b5, .bool b6, .bool b7, .map (some M)]) := by rw [hW0]; exact (blk_new (by simp)).alloc _
  have mW : Hid (Blk W0 (w.heap.size + 1 + 1 + 1) 9 #[.string s]) := by rw [hW0]; exact blk_new (by simp)
  have hB0 : Hid (Below w.heap.size w W0) := by
    show Below _ _ _
    rw [hW0]; exact below_al (below_a3 w _ _ _) (Nat.le_refl _) _
  have hsz : W0.heap.size = w.heap.size + 4 := by rw [hW0]; simp
  have MM0 := Lib.hid (MM.out.below hB0.out)
  clear MM hW0
  obtain ⟨T, hT⟩ : ∃ T, T = w.heap.size + 1 := ⟨_, rfl⟩
  obtain ⟨mb, hmb⟩ : ∃ T, T = w.heap.size + 1 + 1 := ⟨_, rfl⟩
  obtain ⟨wb, hwb⟩ : ∃ T, T = w.heap.size + 1 + 1 + 1 := ⟨_, rfl⟩
  rw [← hT] at mL
  rw [← hmb] at mB
  rw [← hwb] at mW
  rw [← hwb, ← hmb, ← hT]
  have kT1 : w.heap.size < T := by omega
  have kT2 : T < mb := by omega
  have kT3 : mb < wb := by omega
  have kT4 : wb < W0.heap.size := by omega
  have HSEQ := along_seq n M cnt mb wb 3 b0 b1 b2 b3 b4 b5 b6 b7 xs ss s W0 n2 (by omega) HX.out HOK.out hs HW.out HS.out mB.out mW.out MM0.out
  clear hT hmb hwb mB mW hsz
  gi_wp2_with fail
  refine wpIn_over rfl (by omega) (gf := 49) rfl trivial (enters_of Tryd.func49 (by kernel_rfl) rfl) HSEQ
    (fun j hj => by rcases hj with rfl | rfl | rfl <;> omega) (Below.refl _ _) (fun _ => rfl)
    (fun X pre W => (∀ j ∈ X, W0.heap.size ≤ j) ∧ Blk W w.heap.size 45 #[.int .i64 n, .bool b0, .bool b1, .bool b2, .bool b3, .bool b4, .bool b5, .bool b6, .bool b7, .map (some M)] ∧ Blk W T 68 (vecC (lastV pre)) ∧ Below w.heap.size w W ∧ W0.heap.size ≤ W.heap.size)
    (fun X s A D row h hg hr => by
      obtain ⟨h1, h2, h3, h4, h5⟩ := h
      have ne : ∀ k, k < W0.heap.size → some k ≠ row := fun k hk e => by
        rcases hr k e.symm with h | h | h
        · have := h1 k h; omega
        · omega
        · omega
      exact ⟨h1, h2.stay hg (ne _ (by omega)), h3.stay hg (ne _ (by omega)), h4.grown hg h4.size (fun j hj => by
        rcases hr j hj with h | h | h
        · have := h1 j h; omega
        · omega
        · omega), Nat.le_trans h5 hg.size⟩)
    (fun X s A D j h hg hj1 hj2 => by
      obtain ⟨h1, h2, h3, h4, h5⟩ := h
      exact ⟨fun i hi => by
        rcases List.mem_cons.1 hi with rfl | hi
        · omega
        · exact h1 i hi, h2.stay hg (by simp), h3.stay hg (by simp), h4.grown hg h4.size (fun j hj => by cases hj), Nat.le_trans h5 hg.size⟩)
    ⟨fun j hj => (by cases hj), mA.out, mL.out, hB0.out, Nat.le_refl _⟩
    (fun X pre x a' W => ∃ b, W0.heap.size + 2 ≤ b ∧ Blk W b 68 #[.int .i64 (x 0), .int .i64 (x 1), .int .i64 (x 2), .int .i64 (x 3)] ∧ a' = { tmps := #[.agg #[.int .i64 n, .bool b0, .bool b1, .bool b2, .bool b3, .bool b4, .bool b5, .bool b6, .bool b7, .map (some M)], .string s, .pointer (some ⟨w.heap.size, 0, none⟩), undef, .int .i64 0, .pointer (some ⟨T, 0, none⟩), .pointer (some ⟨b, 0, none⟩), .agg #[.int .i64 n, .bool b0, .bool b1, .bool b2, .bool b3, .bool b4, .bool b5, .bool b6, .bool b7, .map (some M)], .string s, .func (.func 49) #[] #[.pointer (some ⟨mb, 0, none⟩), .pointer (some ⟨wb, 0, none⟩)], .agg #[.int .i64 (x 0), .int .i64 (x 1), .int .i64 (x 2), .int .i64 (x 3)], undef, undef, undef, undef, undef], defers := [] } ∧ (∀ j ∈ X, W0.heap.size ≤ j) ∧ Blk W w.heap.size 45 #[.int .i64 n, .bool b0, .bool b1, .bool b2, .bool b3, .bool b4, .bool b5, .bool b6, .bool b7, .map (some M)] ∧ Blk W T 68 (vecC (lastV pre)) ∧ Below w.heap.size w W ∧ W0.heap.size ≤ W.heap.size)
    (fun X pre x a' A D h hg => by
      obtain ⟨b, g1, g2, g3, h1, h2, h3, h4, h5⟩ := h
      exact ⟨b, g1, g2.stay hg (fun e => by have := Option.some.inj e; omega), g3, h1, h2.stay hg (fun e => by have := Option.some.inj e; omega), h3.stay hg (fun e => by have := Option.some.inj e; omega), h4.grown hg h4.size (fun j hj => by have := Option.some.inj hj; omega), Nat.le_trans h5 hg.size⟩)
    ?assign ?body ?done
  case assign =>
    rintro l X pre x W K ⟨h1, h2, h3, h4, h5⟩ hXb hsb hlen hK
    unfold vecC
    gi_wp2_with fail
    refine hK _ _ ⟨W.heap.size, by omega, Blk.new _ _ _, rfl, h1, h2.alloc _, h3.alloc _, below_al h4 (Nat.le_refl _) _, by simp; omega⟩ ⟨by simp, fun j hj => ?_⟩
    refine Below.heap_alloc _ _ _ ?_
    rcases hj with hj | hj | hj | hj
    · exact (hXb j hj).2
    · rcases hj with rfl | rfl | rfl <;> omega
    · omega
    · omega
  case body =>
    rintro l X pre x a' W ⟨b, g1, g2, rfl, h1, h2, h3, h4, h5⟩ hXb hsb hlen
    obtain ⟨c0, c1, c2, c3⟩ := four_cells g2
    obtain ⟨d0, d1, d2, d3⟩ := four_cells h3
    obtain ⟨f0, f1, f2, f3⟩ := four_frozen h3
    gi_wp2_with fail
    have hgs : W.grownBy ((((W.setCell ⟨T, 0, none⟩ (.int .i64 (x 0))).setCell ⟨T, 1, none⟩ (.int .i64 (x 1))).setCell ⟨T, 2, none⟩ (.int .i64 (x 2))).setCell ⟨T, 3, none⟩ (.int .i64 (x 3))) (some T) := grow_trans (grow_trans (grow_trans (grow_set _ T 0 _) (grow_set _ T 1 _)) (grow_set _ T 2 _)) (grow_set _ T 3 _)
    refine ⟨⟨hgs.size, fun j hj => hgs.block j ?_ ?_⟩, h1, h2.stay hgs (fun e => by have := Option.some.inj e; omega), ?_, h4.grown hgs h4.size (fun j hj => by have := Option.some.inj hj; omega), Nat.le_trans h5 hgs.size⟩
    · rcases hj with hj | hj | hj | hj
      · exact (hXb j hj).2
      · rcases hj with rfl | rfl | rfl <;> omega
      · omega
      · omega
    · intro e
      have := Option.some.inj e
      rcases hj with hj | hj | hj | hj
      · have := hXb j hj; omega
      · rcases hj with rfl | rfl | rfl <;> omega
      · omega
      · omega
    · rw [lastV_snoc]
      exact ((((h3.set_ 0 (.int .i64 (x 0))).set_ 1 (.int .i64 (x 1))).set_ 2 (.int .i64 (x 2))).set_ 3 (.int .i64 (x 3)))
  case done =>
    rintro X vs W hvs ⟨h1, h2, h3, h4, h5⟩ hK
    have hlast : lastV vs = alongV n ss xs s.data.toList := by
      rw [hvs, alongs_snoc, lastV_snoc, List.take_of_length_le (by rw [← Lib.size_eq]; omega)]
    rw [hlast] at h3
    have RR : Hid (leastV ys (alongV n ss xs s.data.toList) 4 = costF n xs ys ss s.data.toList) := rfl
    obtain ⟨v, hv⟩ : ∃ v, alongV n ss xs s.data.toList = v := ⟨_, rfl⟩
    rw [hv] at h3 RR
    obtain ⟨c0, c1, c2, c3⟩ := four_cells h3
    have a5 := h2.cell 5
    have a6 := h2.cell 6
    have a7 := h2.cell 7
    have a8 := h2.cell 8
    simp at a5 a6 a7 a8
    have HK := Lib.hid hK
    have H4 := Lib.hid h4
    clear hlast hv hvs h1 hK h4
    gi_wp2_with fail
    refine ⟨trivial, ?_⟩
    rw [← HF.out]
    refine (callsIn_wide.2 (leastIn_any ys v _)).mono ?_
    rintro e W1 ⟨rfl, hb1⟩
    have hK1 := (hb1.block _ (Array.getElem?_eq_some_iff.1 HK.out).1).trans HK.out
    have B1 := Lib.hid (below_on H4.out hb1)
    gi_wp2_with fail
    refine ⟨by simp, .inl ⟨_, _, rfl, run_takeDeferred hK1, ?_⟩⟩
    exact ⟨_, results_tmp rfl _ _ _, by rw [RR.out]; rfl, B1.out.grown (grownBy_putObj' W1 _ _) B1.out.size (fun j hj => by have := Option.some.inj hj; have := H4.out.size; omega)⟩
end Go.Proofs.YtfdbbopanankgaaDoor
