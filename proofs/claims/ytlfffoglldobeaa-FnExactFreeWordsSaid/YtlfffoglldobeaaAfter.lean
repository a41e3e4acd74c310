/- The program's costs of all states: those at the start, and the least one among some states; nothing that was there changes. Condition: all are costs. The program's step of the costs of all states by one letter more: the least ones, in whatever order the map's entries come; nothing that was there changes. Conditions: at most four states, steps between them, all are costs. -/
import Derived.Test.YtlfffoglldobeaaPathT
import Derived.Test.YtlfffoglldobeaaIdx
import Derived.Test.YtlfffoglldobeaaMach2
import Derived.Test.YtlfffoglldobeaaMapK
import Derived.Test.YtlfffoglldobeaaWordMI
namespace Go.Proofs.Ytlfffoglldobeaa
open Go.RowKit
set_option maxHeartbeats 4000000
set_option maxRecDepth 100000
set_option linter.unusedVariables false

def vecC (v : VF) : Array Value := #[.int .i64 (v 0), .int .i64 (v 1), .int .i64 (v 2), .int .i64 (v 3)]
/-- Of the first k those that are not in the set can't be had. -/
def bC (b0 b1 b2 b3 : Bool) (k : Nat) : Array Value := #[.int .i64 (if 0 < k ∧ b0 = false then 1000000 else 0), .int .i64 (if 1 < k ∧ b1 = false then 1000000 else 0), .int .i64 (if 2 < k ∧ b2 = false then 1000000 else 0), .int .i64 (if 3 < k ∧ b3 = false then 1000000 else 0)]
theorem gives_vec {tmps : Array Value} {w : World} {p : Tmp} {g : Nat} {t : TypeId} {a b c d : Value} (hp : tmps.getD p undef = .pointer (some ⟨g, 0, none⟩)) (hg : Blk w g t #[a, b, c, d]) : Gives Try.prog tmps w (.cell p 80) (.agg #[a, b, c, d]) :=
  Gives.row hp hg Try.underlying80 rfl (by kernel_rfl)
theorem startV_of (xs : List Int) (k : Nat) (b : Bool) (h : hasB xs k = b) : startV xs k = if b then 0 else 1000000 := by
  unfold startV; rw [h]

theorem startCosts_any (xs : List Int) (w : World) :
    Calls Try.prog 51 #[.agg (setC xs)] w fun e w' => e = .returned (.agg (vecC (startV xs))) ∧ Below w.heap.size w w' := by
  obtain ⟨b0, hb0⟩ : ∃ b, hasB xs ((0 : Nat) : Int) = b := ⟨_, rfl⟩
  obtain ⟨b1, hb1⟩ : ∃ b, hasB xs ((1 : Nat) : Int) = b := ⟨_, rfl⟩
  obtain ⟨b2, hb2⟩ : ∃ b, hasB xs ((2 : Nat) : Int) = b := ⟨_, rfl⟩
  obtain ⟨b3, hb3⟩ : ∃ b, hasB xs ((3 : Nat) : Int) = b := ⟨_, rfl⟩
  have v0 := startV_of xs 0 b0 hb0
  have v1 := startV_of xs 1 b1 hb1
  have v2 := startV_of xs 2 b2 hb2
  have v3 := startV_of xs 3 b3 hb3
  unfold setC vecC
  rw [v0, v1, v2, v3]
  rw [show hasB xs 0 = b0 from hb0, show hasB xs 1 = b1 from hb1, show hasB xs 2 = b2 from hb2, show hasB xs 3 = b3 from hb3]
  clear v0 v1 v2 v3 hb0 hb1 hb2 hb3
  obtain ⟨z0, hz0⟩ : ∃ z : Int, (if b0 = true then 0 else 1000000) = z := ⟨_, rfl⟩
  obtain ⟨z1, hz1⟩ : ∃ z : Int, (if b1 = true then 0 else 1000000) = z := ⟨_, rfl⟩
  obtain ⟨z2, hz2⟩ : ∃ z : Int, (if b2 = true then 0 else 1000000) = z := ⟨_, rfl⟩
  obtain ⟨z3, hz3⟩ : ∃ z : Int, (if b3 = true then 0 else 1000000) = z := ⟨_, rfl⟩
  rw [hz0, hz1, hz2, hz3]
  have Z0 := Lib.hid hz0
  have Z1 := Lib.hid hz1
  have Z2 := Lib.hid hz2
  have Z3 := Lib.hid hz3
  clear hz0 hz1 hz2 hz3
  go_enter Try.func51, Try.ntmps51
  go_wp2_with fail
  obtain ⟨G, hG⟩ : ∃ G, G = w.heap.size + 1 + 1 := ⟨_, rfl⟩
  have HGW : w.heap.size + 1 < G := by omega
  have S0 : Hid (Blk (((w.alloc (.cells #[.bool b0, .bool b1, .bool b2, .bool b3] 48)).alloc (.cells #[.int .i64 0, .int .i64 0, .int .i64 0, .int .i64 0] 80)).alloc (.cells #[.int .i64 0, .int .i64 0, .int .i64 0, .int .i64 0] 80)) G 80 (bC b0 b1 b2 b3 0)) := blk_new (by simp; omega)
  have R0 : Hid (Blk (((w.alloc (.cells #[.bool b0, .bool b1, .bool b2, .bool b3] 48)).alloc (.cells #[.int .i64 0, .int .i64 0, .int .i64 0, .int .i64 0] 80)).alloc (.cells #[.int .i64 0, .int .i64 0, .int .i64 0, .int .i64 0] 80)) (w.heap.size + 1) 80 #[.int .i64 0, .int .i64 0, .int .i64 0, .int .i64 0]) := (blk_new (by simp)).alloc _
  have B0 := Lib.hid (below_a3 w (.cells #[.bool b0, .bool b1, .bool b2, .bool b3] 48) (.cells #[.int .i64 0, .int .i64 0, .int .i64 0, .int .i64 0] 80) (.cells #[.int .i64 0, .int .i64 0, .int .i64 0, .int .i64 0] 80))
  generalize ((w.alloc (.cells #[.bool b0, .bool b1, .bool b2, .bool b3] 48)).alloc (.cells #[.int .i64 0, .int .i64 0, .int .i64 0, .int .i64 0] 80)).alloc (.cells #[.int .i64 0, .int .i64 0, .int .i64 0, .int .i64 0] 80) = w3 at S0 R0 B0 ⊢
  rw [← hG]
  clear hG
  go_loopw [7] (fun i wr => ∃ k : Nat, k ≤ 4 ∧ i = .int .i64 k ∧ Hid (Blk wr G 80 (bC b0 b1 b2 b3 k)) ∧ Hid (Blk wr (w.heap.size + 1) 80 #[.int .i64 0, .int .i64 0, .int .i64 0, .int .i64 0]) ∧ Hid (Below w.heap.size w wr)) (fun i _ => 4 - (intOf i).toNat)
  case atStart => exact ⟨0, Nat.zero_le _, rfl, S0, R0, B0⟩
  case round =>
    obtain ⟨k, hk, rfl, hs, hr, hbw⟩ := hrel
    have hk5 : k = 0 ∨ k = 1 ∨ k = 2 ∨ k = 3 ∨ k = 4 := by omega
    have hB3 := fun i => Lib.hid (hbw.out.setCell (p := ⟨G, i, none⟩) (by simp; omega) (.int .i64 1000000))
    have hR3 := fun i => Lib.hid (hr.out.other G i (.int .i64 1000000) (by omega))
    rcases hk5 with rfl | rfl | rfl | rfl | rfl
    · have ix := idx0 (.bool b0) (.bool b1) (.bool b2) (.bool b3)
      cases b0
      · have S3 : Hid (Blk (wr.setCell ⟨G, 0, none⟩ (.int .i64 1000000)) G 80 (bC false b1 b2 b3 1)) := by
          have h := hs.out.set_ 0 (.int .i64 1000000)
          simp [bC] at h ⊢
          exact h
        obtain ⟨c0, c1, c2, c3⟩ := four_cells hs.out
        obtain ⟨f0, f1, f2, f3⟩ := four_frozen hs.out
        go_wp2_with fail
        go_roundw
        case rel => exact ⟨1, by omega, by go_num, S3, hR3 0, hB3 0⟩
        case measure => simp [intOf]
      · have S3 : Hid (Blk wr G 80 (bC true b1 b2 b3 1)) := by
          have h := hs.out
          simp [bC] at h ⊢
          exact h
        go_wp2_with fail
        go_roundw
        case rel => exact ⟨1, by omega, by go_num, S3, hr, hbw⟩
        case measure => simp [intOf]
    · have ix := idx1 (.bool b0) (.bool b1) (.bool b2) (.bool b3)
      cases b1
      · have S3 : Hid (Blk (wr.setCell ⟨G, 1, none⟩ (.int .i64 1000000)) G 80 (bC b0 false b2 b3 2)) := by
          have h := hs.out.set_ 1 (.int .i64 1000000)
          simp [bC] at h ⊢
          exact h
        obtain ⟨c0, c1, c2, c3⟩ := four_cells hs.out
        obtain ⟨f0, f1, f2, f3⟩ := four_frozen hs.out
        go_wp2_with fail
        go_roundw
        case rel => exact ⟨2, by omega, by go_num, S3, hR3 1, hB3 1⟩
        case measure => simp [intOf]
      · have S3 : Hid (Blk wr G 80 (bC b0 true b2 b3 2)) := by
          have h := hs.out
          simp [bC] at h ⊢
          exact h
        go_wp2_with fail
        go_roundw
        case rel => exact ⟨2, by omega, by go_num, S3, hr, hbw⟩
        case measure => simp [intOf]
    · have ix := idx2 (.bool b0) (.bool b1) (.bool b2) (.bool b3)
      cases b2
      · have S3 : Hid (Blk (wr.setCell ⟨G, 2, none⟩ (.int .i64 1000000)) G 80 (bC b0 b1 false b3 3)) := by
          have h := hs.out.set_ 2 (.int .i64 1000000)
          simp [bC] at h ⊢
          exact h
        obtain ⟨c0, c1, c2, c3⟩ := four_cells hs.out
        obtain ⟨f0, f1, f2, f3⟩ := four_frozen hs.out
        go_wp2_with fail
        go_roundw
        case rel => exact ⟨3, by omega, by go_num, S3, hR3 2, hB3 2⟩
        case measure => simp [intOf]
      · have S3 : Hid (Blk wr G 80 (bC b0 b1 true b3 3)) := by
          have h := hs.out
          simp [bC] at h ⊢
          exact h
        go_wp2_with fail
        go_roundw
        case rel => exact ⟨3, by omega, by go_num, S3, hr, hbw⟩
        case measure => simp [intOf]
    · have ix := idx3 (.bool b0) (.bool b1) (.bool b2) (.bool b3)
      cases b3
      · have S3 : Hid (Blk (wr.setCell ⟨G, 3, none⟩ (.int .i64 1000000)) G 80 (bC b0 b1 b2 false 4)) := by
          have h := hs.out.set_ 3 (.int .i64 1000000)
          simp [bC] at h ⊢
          exact h
        obtain ⟨c0, c1, c2, c3⟩ := four_cells hs.out
        obtain ⟨f0, f1, f2, f3⟩ := four_frozen hs.out
        go_wp2_with fail
        go_roundw
        case rel => exact ⟨4, by omega, by go_num, S3, hR3 3, hB3 3⟩
        case measure => simp [intOf]
      · have S3 : Hid (Blk wr G 80 (bC b0 b1 b2 true 4)) := by
          have h := hs.out
          simp [bC] at h ⊢
          exact h
        go_wp2_with fail
        go_roundw
        case rel => exact ⟨4, by omega, by go_num, S3, hr, hbw⟩
        case measure => simp [intOf]
    · have S4 : Hid (Blk wr G 80 #[.int .i64 z0, .int .i64 z1, .int .i64 z2, .int .i64 z3]) := by
        have h := hs.out
        rw [← Z0.out, ← Z1.out, ← Z2.out, ← Z3.out]
        cases b0 <;> cases b1 <;> cases b2 <;> cases b3 <;> exact h
      clear hs hB3 hR3
      obtain ⟨c0, c1, c2, c3⟩ := four_cells S4.out
      obtain ⟨d0, d1, d2, d3⟩ := four_cells hr.out
      obtain ⟨f0, f1, f2, f3⟩ := four_frozen hr.out
      go_wp2_with fail
      have HF := ((((hr.out.set_ 0 (.int .i64 z0)).set_ 1 (.int .i64 z1)).set_ 2 (.int .i64 z2)).set_ 3 (.int .i64 z3))
      refine bodyPost_ret (results_1 rfl (gives_vec (g := w.heap.size + 1) rfl HF)) rfl ?_
      exact ⟨rfl, (((hbw.out.setCell (p := ⟨_, 0, none⟩) (Nat.le_succ _) _).setCell (p := ⟨_, 1, none⟩) (Nat.le_succ _) _).setCell (p := ⟨_, 2, none⟩) (Nat.le_succ _) _).setCell (p := ⟨_, 3, none⟩) (Nat.le_succ _) _⟩

theorem leastV_t (ys : List Int) (v : VF) (q : Nat) (h : hasB ys q = true) : leastV ys v (q + 1) = min (leastV ys v q) (v q) := by
  rw [leastV]; rw [if_pos h]
theorem leastV_f (ys : List Int) (v : VF) (q : Nat) (h : hasB ys q = false) : leastV ys v (q + 1) = leastV ys v q := by
  rw [leastV]; rw [if_neg (by rw [h]; decide)]
theorem leastIn_any (ys : List Int) (v : VF) (w : World) :
    Calls Try.prog 41 #[.agg (vecC v), .agg (setC ys)] w fun e w' => e = .returned (.int .i64 (leastV ys v 4)) ∧ Below w.heap.size w w' := by
  obtain ⟨b0, hb0⟩ : ∃ b, hasB ys ((0 : Nat) : Int) = b := ⟨_, rfl⟩
  obtain ⟨b1, hb1⟩ : ∃ b, hasB ys ((1 : Nat) : Int) = b := ⟨_, rfl⟩
  obtain ⟨b2, hb2⟩ : ∃ b, hasB ys ((2 : Nat) : Int) = b := ⟨_, rfl⟩
  obtain ⟨b3, hb3⟩ : ∃ b, hasB ys ((3 : Nat) : Int) = b := ⟨_, rfl⟩
  have H0 := Lib.hid hb0
  have H1 := Lib.hid hb1
  have H2 := Lib.hid hb2
  have H3 := Lib.hid hb3
  obtain ⟨r, hr⟩ : ∃ r, leastV ys v 4 = r := ⟨_, rfl⟩
  have HR := Lib.hid hr
  obtain ⟨v0, hv0⟩ : ∃ z, v 0 = z := ⟨_, rfl⟩
  obtain ⟨v1, hv1⟩ : ∃ z, v 1 = z := ⟨_, rfl⟩
  obtain ⟨v2, hv2⟩ : ∃ z, v 2 = z := ⟨_, rfl⟩
  obtain ⟨v3, hv3⟩ : ∃ z, v 3 = z := ⟨_, rfl⟩
  have V0 := Lib.hid hv0
  have V1 := Lib.hid hv1
  have V2 := Lib.hid hv2
  have V3 := Lib.hid hv3
  unfold setC vecC
  rw [show hasB ys 0 = b0 from hb0, show hasB ys 1 = b1 from hb1, show hasB ys 2 = b2 from hb2, show hasB ys 3 = b3 from hb3, hv0, hv1, hv2, hv3, hr]
  clear hb0 hb1 hb2 hb3 hv0 hv1 hv2 hv3 hr
  go_enter Try.func41, Try.ntmps41
  go_wp2_with fail
  have S0 : Hid (Blk ((w.alloc (.cells #[.int .i64 v0, .int .i64 v1, .int .i64 v2, .int .i64 v3] 80)).alloc (.cells #[.bool b0, .bool b1, .bool b2, .bool b3] 48)) w.heap.size 80 #[.int .i64 v0, .int .i64 v1, .int .i64 v2, .int .i64 v3]) := (Blk.new _ _ _).alloc _
  have B0 := Lib.hid (below_a2 w (.cells #[.int .i64 v0, .int .i64 v1, .int .i64 v2, .int .i64 v3] 80) (.cells #[.bool b0, .bool b1, .bool b2, .bool b3] 48))
  generalize (w.alloc (.cells #[.int .i64 v0, .int .i64 v1, .int .i64 v2, .int .i64 v3] 80)).alloc (.cells #[.bool b0, .bool b1, .bool b2, .bool b3] 48) = w2 at S0 B0 ⊢
  obtain ⟨c0, c1, c2, c3⟩ := four_cells S0.out
  go_loop [5, 9] (fun a i => ∃ k : Nat, k ≤ 4 ∧ i = .int .i64 k ∧ a = .int .i64 (leastV ys v k)) (fun _ i => 4 - (intOf i).toNat)
  case atStart => exact ⟨0, Nat.zero_le _, rfl, rfl⟩
  case round =>
    obtain ⟨k, hk, rfl, rfl⟩ := hrel
    have hk5 : k = 0 ∨ k = 1 ∨ k = 2 ∨ k = 3 ∨ k = 4 := by omega
    rcases hk5 with rfl | rfl | rfl | rfl | rfl
    · have ix := idx0 (.bool b0) (.bool b1) (.bool b2) (.bool b3)
      cases b0
      · go_wp2_with fail
        go_round
        case rel => exact ⟨1, by omega, by go_num, by rw [leastV_f ys v 0 H0.out]⟩
        case measure => simp [intOf]
      · go_wp2_with fail
        go_round
        case rel => exact ⟨1, by omega, by go_num, by rw [leastV_t ys v 0 H0.out, V0.out]⟩
        case measure => simp [intOf]
    · have ix := idx1 (.bool b0) (.bool b1) (.bool b2) (.bool b3)
      cases b1
      · go_wp2_with fail
        go_round
        case rel => exact ⟨2, by omega, by go_num, by rw [leastV_f ys v 1 H1.out]⟩
        case measure => simp [intOf]
      · go_wp2_with fail
        go_round
        case rel => exact ⟨2, by omega, by go_num, by rw [leastV_t ys v 1 H1.out, V1.out]⟩
        case measure => simp [intOf]
    · have ix := idx2 (.bool b0) (.bool b1) (.bool b2) (.bool b3)
      cases b2
      · go_wp2_with fail
        go_round
        case rel => exact ⟨3, by omega, by go_num, by rw [leastV_f ys v 2 H2.out]⟩
        case measure => simp [intOf]
      · go_wp2_with fail
        go_round
        case rel => exact ⟨3, by omega, by go_num, by rw [leastV_t ys v 2 H2.out, V2.out]⟩
        case measure => simp [intOf]
    · have ix := idx3 (.bool b0) (.bool b1) (.bool b2) (.bool b3)
      cases b3
      · go_wp2_with fail
        go_round
        case rel => exact ⟨4, by omega, by go_num, by rw [leastV_f ys v 3 H3.out]⟩
        case measure => simp [intOf]
      · go_wp2_with fail
        go_round
        case rel => exact ⟨4, by omega, by go_num, by rw [leastV_t ys v 3 H3.out, V3.out]⟩
        case measure => simp [intOf]
    · go_wp2_with fail
      go_ret
      exact ⟨ret_int HR.out, B0.out⟩
end Go.Proofs.Ytlfffoglldobeaa
namespace Go.Proofs.Ytlfffoglldobeaa
open Go.RowKit
set_option maxHeartbeats 4000000
set_option maxRecDepth 100000
set_option linter.unusedVariables false

/-- What the entries that have come make of the costs. -/
def AftP (F : FF) (l : ByteArray) (v : VF) (left : LF) (u : VF) : Prop := ∀ k : Nat, k < 4 → ∀ x : Int, x ≤ u k ↔ x ≤ 1000000 ∧ ∀ (p : Nat) (c : Int), F p l k = some c → left p l k = false → x ≤ v p + c
theorem aft_start (F : FF) (l : ByteArray) (v : VF) : AftP F l v (fun f l t => (F f l t).isSome) (fun _ => 1000000) := fun k _ x => by
  constructor
  · intro h
    exact ⟨h, fun p c hF hl => by simp [hF] at hl⟩
  · exact fun h => h.1
theorem aft_skip {F : FF} {l le : ByteArray} {v : VF} {left : LF} {u : VF} {f t : Int} (h : AftP F l v left u) (hne : ¬ le = l) : AftP F l v (strike left f le t) u := fun k hk x => by
  rw [h k hk x]
  have e : ∀ p : Nat, strike left f le t p l k = left p l k := fun p => by
    unfold strike
    rw [decide_eq_false (fun hh => hne (by cases le; cases l; simp at hh; rw [hh.2.1]))]
    simp
  constructor
  · rintro ⟨h1, h2⟩
    exact ⟨h1, fun p c hF hl => h2 p c hF (by rw [← e]; exact hl)⟩
  · rintro ⟨h1, h2⟩
    exact ⟨h1, fun p c hF hl => h2 p c hF (by rw [e]; exact hl)⟩
def putV (u : VF) (t : Nat) (z : Int) : VF := fun k => if k = t then z else u k
theorem aft_take {F : FF} {l : ByteArray} {v : VF} {left : LF} {u : VF} {f t : Nat} {c : Int} (h : AftP F l v left u) (ht : t < 4) (hF : F f l t = some c) (hl : left f l t = true) : AftP F l v (strike left f l t) (putV u t (min (u t) (min (v f + c) 1000000))) := fun k hk x => by
  unfold putV
  by_cases e : k = t
  · subst e
    rw [if_pos rfl]
    have h1 := h k hk x
    constructor
    · intro hx
      have h2 := h1.1 (by omega)
      refine ⟨h2.1, fun p c' hF' hl' => ?_⟩
      by_cases ep : p = f
      · subst ep
        rw [hF] at hF'; cases hF'
        omega
      · refine h2.2 p c' hF' ?_
        unfold strike at hl'
        rw [decide_eq_false (fun hh => ep (by omega))] at hl'
        simpa using hl'
    · rintro ⟨h2, h3⟩
      have h4 := h3 f c hF (by unfold strike; simp)
      have h5 := h1.2 ⟨h2, fun p c' hF' hl' => h3 p c' hF' (by unfold strike; rw [hl']; rfl)⟩
      omega
  · rw [if_neg e, h k hk x]
    have es : ∀ p : Nat, strike left f l t p l k = left p l k := fun p => by
      unfold strike
      rw [decide_eq_false (fun hh => e (by omega))]
      simp
    constructor
    · rintro ⟨h1, h2⟩
      exact ⟨h1, fun p c hF hl => h2 p c hF (by rw [← es]; exact hl)⟩
    · rintro ⟨h1, h2⟩
      exact ⟨h1, fun p c hF hl => h2 p c hF (by rw [es]; exact hl)⟩
theorem aft_done {n : Nat} {ss : List StepD} {l : ByteArray} {v : VF} {left : LF} {u : VF} (hok : ∀ s ∈ ss, stepOk n s = true) (n2 : n ≤ 4) (hl : l.size ≤ maxLen) (hv : InV n v) (h : AftP (costAt ss) l v left u) (h0 : ∀ f l t, kwf f l t → left f l t = false) : ∀ k : Nat, k < 4 → u k = nextV n (cellF (costAt ss) l) v k := fun k hk => by
  apply eq_of_le
  intro x
  rw [h k hk x]
  unfold nextV
  by_cases hkn : k < n
  · rw [if_pos hkn, le_dot]
    constructor
    · rintro ⟨h1, h2⟩
      refine ⟨h1, fun j hj => ?_⟩
      show x ≤ v j + cellF (costAt ss) l j k
      unfold cellF
      rcases hF : costAt ss j l k with _ | c
      · have := (hv j).1
        simp only [Option.getD_none]; omega
      · exact h2 j c hF (h0 _ _ _ ⟨wf_small (by omega), hl, wf_small (by omega)⟩)
    · rintro ⟨h1, h2⟩
      refine ⟨h1, fun p c hF hl => ?_⟩
      have hp := costAt_in hok hF
      have h3 : x ≤ v p + cellF (costAt ss) l p k := h2 p (by omega)
      unfold cellF at h3
      rw [hF] at h3
      exact h3
  · rw [if_neg hkn]
    constructor
    · exact fun h => h.1
    · intro h1
      refine ⟨h1, fun p c hF hl => ?_⟩
      have hp := costAt_in hok hF
      omega
theorem vec_eq {u v : VF} (h : ∀ k, k < 4 → u k = v k) : vecC u = vecC v := by
  unfold vecC
  rw [h 0 (by omega), h 1 (by omega), h 2 (by omega), h 3 (by omega)]
theorem vec_set (u : VF) {t : Nat} (ht : t < 4) (z : Int) : (vecC u).setIfInBounds t (.int .i64 z) = vecC (putV u t z) := by
  rcases four_cases ht with rfl | rfl | rfl | rfl <;> simp [vecC, putV]
theorem vec_cell {w : World} {g : Nat} {t : TypeId} {u : VF} (h : Blk w g t (vecC u)) {q : Nat} (hq : q < 4) : w.cell? ⟨g, q, none⟩ = some (.int .i64 (u q)) := by
  rw [h.cell q]
  rcases four_cases hq with rfl | rfl | rfl | rfl <;> rfl
theorem bytes_ne {a b : ByteArray} (h : ¬ a = b) : (a.toList == b.toList) = false := by
  rw [ByteArray.toList_eq, ByteArray.toList_eq, beq_eq_false_iff_ne]
  intro he
  exact h (by cases a; cases b; simp at he ⊢; exact he)
def InU (u : VF) : Prop := ∀ k, 0 ≤ u k ∧ u k ≤ 1000000

theorem after_any (n M cnt : Nat) (b0 b1 b2 b3 b4 b5 b6 b7 : Bool) (ss : List StepD) (v : VF) (l : ByteArray) (w : World) (n2 : n ≤ 4) (hok : ∀ s ∈ ss, stepOk n s = true) (hl : l.size ≤ maxLen) (hv : InV n v) (hM : CMap w M cnt (costAt ss)) :
    Calls Try.prog 52 #[.agg #[.int .i64 n, .bool b0, .bool b1, .bool b2, .bool b3, .bool b4, .bool b5, .bool b6, .bool b7, .map (some M)], .agg (vecC v), .string l] w fun e w' => e = .returned (.agg (vecC (nextV n (cellF (costAt ss) l) v))) ∧ Below w.heap.size w w' := by
  have HOK := Lib.hid hok
  have HV := Lib.hid hv
  have MM := Lib.hid hM
  have HL := Lib.hid hl
  have hMw := hM.lt
  obtain ⟨r, hr⟩ : ∃ r, nextV n (cellF (costAt ss) l) v = r := ⟨_, rfl⟩
  have HR := Lib.hid hr
  obtain ⟨F, hF⟩ : ∃ F, costAt ss = F := ⟨_, rfl⟩
  have HF := Lib.hid hF
  rw [hr]
  rw [hF] at MM
  clear hok hv hM hl hr hF
  go_enter Try.func52, Try.ntmps52
  go_wp2_with fail
  refine (startCosts_any [] _).mono ?_
  rintro e w1 ⟨rfl, hb1⟩
  have A1 : Hid (Blk w1 w.heap.size 51 #[.int .i64 n, .bool b0, .bool b1, .bool b2, .bool b3, .bool b4, .bool b5, .bool b6, .bool b7, .map (some M)]) := (((Blk.new w _ _).alloc _).alloc _).below hb1 (by simp <;> omega)
  have C1 : Hid (Blk w1 (w.heap.size + 1) 80 (vecC v)) := ((blk_new (by simp)).alloc _).below hb1 (by simp <;> omega)
  have R1 : Hid (Blk w1 (w.heap.size + 1 + 1) 80 #[.int .i64 0, .int .i64 0, .int .i64 0, .int .i64 0]) := (blk_new (by simp)).below hb1 (by simp)
  have B1 := Lib.hid (below_on (below_a3 w _ _ _) hb1)
  have M1 := Lib.hid (MM.out.below B1.out)
  have hw1 := Blk.lt R1.out
  have ev : vecC (startV []) = #[.int .i64 1000000, .int .i64 1000000, .int .i64 1000000, .int .i64 1000000] := rfl
  rw [ev]
  clear hb1 ev MM
  have U1 := Lib.hid (Blk.new w1 80 (vecC (fun _ => 1000000)))
  have A2 := Lib.hid (A1.out.alloc (.cells (vecC (fun _ => 1000000)) 80))
  have C2 := Lib.hid (C1.out.alloc (.cells (vecC (fun _ => 1000000)) 80))
  have R2 := Lib.hid (R1.out.alloc (.cells (vecC (fun _ => 1000000)) 80))
  have B2 := Lib.hid (below_al B1.out (Nat.le_refl _) (.cells (vecC (fun _ => 1000000)) 80))
  have M2 := Lib.hid (M1.out.kept (World.grownBy_alloc w1 (.cells (vecC (fun _ => 1000000)) 80) none) (by simp))
  obtain ⟨G, hG⟩ : ∃ G, G = w1.heap.size := ⟨_, rfl⟩
  have ew : w1.alloc (.cells #[.int .i64 1000000, .int .i64 1000000, .int .i64 1000000, .int .i64 1000000] 80) = w1.alloc (.cells (vecC (fun _ => 1000000)) 80) := rfl
  have hs2 : G + 1 = (w1.alloc (.cells (vecC (fun _ => 1000000)) 80)).heap.size := by rw [hG]; exact (World.size_alloc _ _).symm
  rw [← hG] at U1
  generalize w1.alloc (.cells (vecC (fun _ => 1000000)) 80) = w2 at *
  have pc9 := A2.out.cell 9
  simp at pc9
  go_upto_region 2 with fail
  rw [← hG]
  have hGw : w.heap.size + 1 + 1 < G := by omega
  have hMG : M < G := by omega
  clear A1 C1 R1 B1 M1 hw1 hG ew
  go_wp2_with (first
    | (at_range; refine wpList_range_c _ rfl _ rfl M cnt F rfl M2.out ?_; intro w3 cn hran hgr hs3)
    | fail)
  go_frame
  rw [← hs2]
  rw [← hs2] at hran
  have hs4 : w3.heap.size = G + 2 := by omega
  have A3 := Lib.hid (A2.out.stay hgr (by simp))
  have C3 := Lib.hid (C2.out.stay hgr (by simp))
  have R3 := Lib.hid (R2.out.stay hgr (by simp))
  have U3 := Lib.hid (Blk.stay U1.out hgr (by simp))
  have B3 : Hid (Below w.heap.size w w3) := B2.out.grown hgr B2.out.size (fun j hj => by cases hj)
  have RA := Lib.hid hran
  clear A2 C2 R2 U1 B2 M2 hran hgr pc9
  go_loopw [8] (fun _ wr => ∃ (left : LF) (cn : Nat) (u : VF), Hid (CRan wr M (G + 1) cnt F left cn) ∧ Hid (AftP F l v left u) ∧ Hid (InU u) ∧ Hid (Blk wr G 80 (vecC u)) ∧ Hid (Ins G (G + 2) w3 wr)) (fun _ wr => wr.rangeLeft M (G + 1))
  case atStart => exact ⟨_, _, _, RA, aft_start F l v, fun k => ⟨by show (0 : Int) ≤ 1000000; omega, by show (1000000 : Int) ≤ 1000000; omega⟩, U3, rfl, rfl, rfl, Nat.le_refl _, fun _ _ _ => rfl⟩
  case round =>
    obtain ⟨left, cn, u, hra, haf, hin, hu, hins⟩ := hrel
    go_wp2_with (first
      | (at_next; refine wpList_next_c _ rfl _ rfl M (G + 1) cnt F left cn rfl hra.out ?_ ?_)
      | fail)
    · intro hl0
      have HQ : Hid (vecC u = vecC r) := by
        show _ = _
        rw [← HR.out]
        refine vec_eq (aft_done HOK.out n2 HL.out HV.out ?_ hl0)
        rw [HF.out]
        exact haf.out
      have R4 := Lib.hid (hins.out.blk R3.out (Or.inl (by omega)))
      have B4 := Lib.hid (hins.out.below B3.out (by omega) B3.out.size)
      have hu' := hu.out
      rw [HQ.out] at hu'
      have HU := Lib.hid hu'
      clear hu hu' hra haf hins
      obtain ⟨c0, c1, c2, c3⟩ := four_cells HU.out
      obtain ⟨d0, d1, d2, d3⟩ := four_cells R4.out
      obtain ⟨f0, f1, f2, f3⟩ := four_frozen R4.out
      go_wp2_with fail
      have HF4 := ((((R4.out.set_ 0 (.int .i64 (r 0))).set_ 1 (.int .i64 (r 1))).set_ 2 (.int .i64 (r 2))).set_ 3 (.int .i64 (r 3)))
      refine bodyPost_ret (results_1 rfl (gives_vec (g := w.heap.size + 1 + 1) rfl HF4)) rfl ?_
      exact ⟨rfl, (((B4.out.setCell (p := ⟨_, 0, none⟩) (by simp; omega) _).setCell (p := ⟨_, 1, none⟩) (by simp; omega) _).setCell (p := ⟨_, 2, none⟩) (by simp; omega) _).setCell (p := ⟨_, 3, none⟩) (by simp; omega) _⟩
    · intro f le t c w4 cn' hk hFs hlf hwc hra' hlt hgr hsz hen
      have hFs' := hFs
      rw [← HF.out] at hFs'
      obtain ⟨f0, f1, t0, t1, c0, c1⟩ := costAt_in HOK.out hFs'
      obtain ⟨f, rfl⟩ : ∃ i : Nat, f = (i : Int) := ⟨f.toNat, by omega⟩
      obtain ⟨t, rfl⟩ : ∃ i : Nat, t = (i : Int) := ⟨t.toNat, by omega⟩
      have hf4 : f < 4 := by omega
      have ht4 : t < 4 := by omega
      have U4 := Lib.hid (hu.out.stay hgr (by intro e; cases e; omega))
      have J4 := Lib.hid (hins.out.trans (Ins.of_grow hgr (fun j e => by cases e; omega)))
      have A4 := Lib.hid (J4.out.blk A3.out (Or.inl (by omega)))
      have C4 := Lib.hid (J4.out.blk C3.out (Or.inl (by omega)))
      have hG4 := Blk.lt U4.out
      have HCN : Hid (cn' < wr.rangeLeft M (G + 1)) := by show _ < _; rw [hra.out.left_eq]; exact hlt
      have RA4 := Lib.hid hra'
      have hr4 := RA4.out.lt
      clear hu hins hgr hra hra' hlt hsz f0 t0 hFs'
      go_upto_region 5 with fail
      have hs2' : w2.heap.size = G + 1 := hs2.symm
      rw [hs2'] at RA4 hr4
      clear hs2'
      obtain ⟨V, hV⟩ : ∃ V, V = w4.heap.size := ⟨_, rfl⟩
      have P5 : Hid (Blk (w4.alloc (.cells #[.int .i64 f, .string le, .int .i64 t] 90)) V 90 #[.int .i64 f, .string le, .int .i64 t]) := by rw [hV]; exact Blk.new _ _ _
      have U5 := Lib.hid (U4.out.alloc (.cells #[.int .i64 f, .string le, .int .i64 t] 90))
      have C5 := Lib.hid (C4.out.alloc (.cells #[.int .i64 f, .string le, .int .i64 t] 90))
      have RA5 := Lib.hid (RA4.out.kept (World.grownBy_alloc w4 (.cells #[.int .i64 f, .string le, .int .i64 t] 90) none) (by simp) (by simp))
      have J5 := Lib.hid (J4.out.trans (Ins.of_grow (B := G) (T := G + 2) (World.grownBy_alloc w4 (.cells #[.int .i64 f, .string le, .int .i64 t] 90) none) (fun j e => by cases e)))
      have hGV : G + 2 ≤ V := by omega
      rw [← hV]
      generalize w4.alloc (.cells #[.int .i64 f, .string le, .int .i64 t] 90) = w5 at P5 U5 C5 RA5 J5 ⊢
      have p0 := P5.out.cell 0
      have p1 := P5.out.cell 1
      have p2 := P5.out.cell 2
      simp at p0 p1 p2
      have gt := vec_cell U5.out ht4
      have vf := vec_cell C5.out hf4
      clear U4 C4 A4 J4 RA4 hV hen hr4 hG4
      by_cases hle : le = l
      · subst hle
        have hvf := (show InV n v from HV.out) f
        have i0 : (0 : Int) ≤ (f : Int) := by omega
        have i1 : (f : Int) < 4 := by omega
        have i2 : (0 : Int) ≤ (t : Int) := by omega
        have i3 : (t : Int) < 4 := by omega
        go_wp2_with fail
        have hS0 : Hid (w5.drew = w5.drew) ∧ w5.drew.cell? ⟨V, 0, none⟩ = some (.int .i64 f) ∧ w5.drew.cell? ⟨V, 2, none⟩ = some (.int .i64 t) ∧ w5.drew.cell? ⟨G, t, none⟩ = some (.int .i64 (u t)) ∧ w5.drew.cell? ⟨w.heap.size + 1, f, none⟩ = some (.int .i64 (v f)) := ⟨rfl, p0, p2, gt, vf⟩
        refine wp_region_Z (S := fun w' => Hid (w' = w5.drew) ∧ w'.cell? ⟨V, 0, none⟩ = some (.int .i64 f) ∧ w'.cell? ⟨V, 2, none⟩ = some (.int .i64 t) ∧ w'.cell? ⟨G, t, none⟩ = some (.int .i64 (u t)) ∧ w'.cell? ⟨w.heap.size + 1, f, none⟩ = some (.int .i64 (v f))) (by kernel_rfl) hS0 (fun hS => ?_)
        clear hS0
        refine wpAnyZ_take (i := 0) (v := ?vz0) rfl (by kernel_rfl) (by kernel_rfl) (by kernel_rfl) (by kernel_rfl) (fun _ _ _ h => h) (Or.inl ⟨by rfl, ?yz0⟩) (by with_reducible assumption) ?rz0
        case yz0 => (intro w hSw; (try dsimp only at hSw); go_simp; (try with_reducible rfl))
        simp only [Act.put, List.setIfInBounds_toArray]
        refine wpAnyZ_take (i := 1) (v := ?vz1) rfl (by kernel_rfl) (by kernel_rfl) (by kernel_rfl) (by kernel_rfl) (fun _ _ _ h => h) (Or.inl ⟨by rfl, ?yz1⟩) (by with_reducible assumption) ?rz1
        case yz1 => (intro w hSw; (try dsimp only at hSw); go_simp; (try with_reducible rfl))
        simp only [Act.put]
        refine wpAnyZ_take (i := 2) (v := ?vz2) rfl (by kernel_rfl) (by kernel_rfl) (by kernel_rfl) (by kernel_rfl) (fun _ _ _ h => h) (Or.inl ⟨by rfl, ?yz2⟩) (by with_reducible assumption) ?rz2
        case yz2 => (intro w hSw; (try dsimp only at hSw); go_simp; (try with_reducible rfl))
        simp only [Act.put]
        refine wpAnyZ_take (i := 3) (v := ?vz3) rfl (by kernel_rfl) (by kernel_rfl) (by kernel_rfl) (by kernel_rfl) (fun _ _ _ h => h) (Or.inl ⟨by rfl, ?yz3⟩) (by with_reducible assumption) ?rz3
        case yz3 => (intro w hSw; (try dsimp only at hSw); go_simp; (try with_reducible rfl))
        simp only [Act.put]
        refine wpAnyZ_take (i := 4) (v := ?vz4) rfl (by kernel_rfl) (by kernel_rfl) (by kernel_rfl) (by kernel_rfl) (fun _ _ _ h => h) (Or.inl ⟨by rfl, ?yz4⟩) (by with_reducible assumption) ?rz4
        case yz4 => (intro w hSw; (try dsimp only at hSw); go_simp; (try with_reducible rfl))
        simp only [Act.put]
        refine wpAnyZ_take (i := 5) (v := ?vz5) rfl (by kernel_rfl) (by kernel_rfl) (by kernel_rfl) (by kernel_rfl) (fun _ _ _ h => h) (Or.inl ⟨by rfl, ?yz5⟩) (by with_reducible assumption) ?rz5
        case yz5 => (intro w hSw; (try dsimp only at hSw); go_simp; (try with_reducible rfl))
        simp only [Act.put]
        refine wpAnyZ_take (i := 6) (v := ?vz6) rfl (by kernel_rfl) (by kernel_rfl) (by kernel_rfl) (by kernel_rfl) (fun _ _ _ h => h) (Or.inl ⟨by rfl, ?yz6⟩) (by with_reducible assumption) ?rz6
        case yz6 => (intro w hSw; (try dsimp only at hSw); go_simp; (try with_reducible rfl))
        simp only [Act.put]
        refine wpAnyZ_take (i := 7) (v := ?vz7) rfl (by kernel_rfl) (by kernel_rfl) (by kernel_rfl) (by kernel_rfl) (fun _ _ _ h => h) (Or.inl ⟨by rfl, ?yz7⟩) (by with_reducible assumption) ?rz7
        case yz7 => (intro w hSw; (try dsimp only at hSw); go_simp; (try with_reducible rfl))
        simp only [Act.put]
        refine wpAnyZ_take (i := 8) (v := ?vz8) rfl (by kernel_rfl) (by kernel_rfl) (by kernel_rfl) (by kernel_rfl) (fun _ _ _ h => h) (Or.inl ⟨by rfl, ?yz8⟩) (by with_reducible assumption) ?rz8
        case yz8 => (intro w hSw; (try dsimp only at hSw); go_simp; (try with_reducible rfl))
        simp only [Act.put]
        refine wpAnyZ_take (i := 9) (v := ?vz9) rfl (by kernel_rfl) (by kernel_rfl) (by kernel_rfl) (by kernel_rfl) (fun _ _ _ h => h) (Or.inl ⟨by rfl, ?yz9⟩) (by with_reducible assumption) ?rz9
        case yz9 => (intro w hSw; (try dsimp only at hSw); go_simp; (try with_reducible rfl))
        simp only [Act.put]
        refine wpAnyZ_take (i := 10) (v := ?vz10) rfl (by kernel_rfl) (by kernel_rfl) (by kernel_rfl) (by kernel_rfl) (fun _ _ _ h => h) (Or.inl ⟨by rfl, ?yz10⟩) (by with_reducible assumption) ?rz10
        case yz10 => (intro w hSw; (try dsimp only at hSw); go_simp; (try with_reducible rfl))
        simp only [Act.put]
        refine wpAnyZ_step (i := 11) (by kernel_rfl) rfl ?_
        intro K1 hK1
        go_simp
        refine (plus_any (v f) c _ (by omega) (by omega) c0 (by omega)).mono ?_
        rintro e w6 ⟨rfl, rfl⟩
        refine hK1.out _ _ hS (fun hS1 => ?_)
        clear hK1
        (try simp only [Act.put])
        refine wpAnyZ_step (i := 12) (by kernel_rfl) rfl ?_
        intro K2 hK2
        go_simp
        refine hK2.out _ _ hS1 (fun hS2 => ?_)
        clear hK2
        (try simp only [Act.put])
        refine wpAnyZ_take (i := 13) (v := ?vy13) rfl (by kernel_rfl) (by kernel_rfl) (by kernel_rfl) (by kernel_rfl) (fun _ _ _ h => h) (Or.inl ⟨by rfl, ?yy13⟩) (by with_reducible assumption) ?ry13
        case yy13 => (intro w hSw; (try dsimp only at hSw); go_simp; (try with_reducible rfl))
        simp only [Act.put]
        obtain ⟨z, hz⟩ : ∃ z, min (u t) (min (v f + c) 1000000) = z := ⟨_, rfl⟩
        have gf : w5.frozen? ⟨G, t, none⟩ = false := U5.out.frozen t
        have hg6 : w5.grownBy (w5.setCell ⟨G, t, none⟩ (.int .i64 z)).drew (some G) := grow_trans (grow_set w5 G t (.int .i64 z)) (grow_drew _ (some G))
        have RA6 := Lib.hid (RA5.out.kept hg6 (by intro e; cases e; omega) (by simp))
        have J6 := Lib.hid (J5.out.trans (Ins.of_grow (B := G) (T := G + 2) hg6 (fun j e => by cases e; omega)))
        have U6 : Hid (Blk (w5.setCell ⟨G, t, none⟩ (.int .i64 z)).drew G 80 (vecC (putV u t z))) := by
          have h := U5.out.set_ t (.int .i64 z)
          rw [vec_set u ht4] at h
          exact h
        have T6 : Hid (AftP F le v (strike left f le t) (putV u t z)) := by rw [← hz]; exact aft_take haf.out ht4 hFs hlf
        have I6 : Hid (InU (putV u t z)) := fun k => by
          have := (show InU u from hin.out) k
          have h2 := (show InU u from hin.out) t
          unfold putV
          split <;> omega
        rw [hz]
        clear hg6 hz P5 U5 C5 RA5 J5
        refine wpAnyZ_last (i := 14) (by kernel_rfl) rfl (by kernel_rfl) ?_
        intro K3 hK3
        go_simp
        refine hK3.out _ _ ?_
        clear hK3
        go_wp2_with fail
        go_roundw
        case rel => exact ⟨_, ⟨cn', by rw [← hs2]; exact RA6⟩, _, T6, I6, U6⟩
        case measure => rw [← hs2, RA6.out.left_eq]; exact HCN.out
      · have hbf := bytes_ne hle
        go_wp2_with fail
        go_roundw
        case rel =>
          rw [← hs2]
          exact ⟨_, _, _, _, _, _, _, _, _, _, _, _, _, _, _, _, _, _, _, _, _, _, _, _, _, ⟨_, cn', u, RA5, aft_skip haf.out hle, hin, U5, J5⟩, rfl⟩
        case measure => rw [RA5.out.left_eq]; exact HCN.out
end Go.Proofs.Ytlfffoglldobeaa
