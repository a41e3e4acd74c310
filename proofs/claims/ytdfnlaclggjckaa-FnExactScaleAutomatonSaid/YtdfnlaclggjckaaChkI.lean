/- The program's machine as an automaton, none if that is not valid: new slices of the call's own. Conditions: as for its steps. -/
import Derived.Test.YtdfnlaclggjckaaAutR
import Derived.Test.YtdfnlaclggjckaaAutI
namespace Go.Proofs.Ytdfnlaclggjckaa
open Go.RowKit
set_option maxHeartbeats 4000000
set_option maxRecDepth 100000
set_option linter.unusedVariables false

/-- An automaton and true, or none if it is not valid. -/
def chkV (m : Int) (xs ys : List Int) (ss : List StepD) : AutV := if autoOk m xs ys ss = true then ⟨m, xs, ys, ss, true⟩ else noneV
theorem checked_any (n M cnt : Nat) (b0 b1 b2 b3 b4 b5 b6 b7 : Bool) (F : FF) (w : World) (hM : CMap w M cnt F) (hc : cnt ≤ 1000) (hF : ∀ f l t c, kwf f l t → F f l t = some c → mvOk ⟨f, l, t, c⟩) :
    Calls Try.prog 67 #[.agg #[.int .i64 n, .bool b0, .bool b1, .bool b2, .bool b3, .bool b4, .bool b5, .bool b6, .bool b7, .map (some M)]] w fun e w' => ∃ us, us.length ≤ cnt ∧ us.Pairwise (fun a b => code a < code b) ∧ (∀ s, s ∈ us ↔ mvOk s ∧ F s.fr s.le s.to_ = some s.co) ∧ AEnd (chkV n (selB (bAt b0 b1 b2 b3) 4) (selB (bAt b4 b5 b6 b7) 4) us) w e w' := by
  have MM := Lib.hid hM
  have HF := Lib.hid hF
  obtain ⟨X, hX⟩ : ∃ X, X = selB (bAt b0 b1 b2 b3) 4 := ⟨_, rfl⟩
  obtain ⟨Y, hY⟩ : ∃ Y, Y = selB (bAt b4 b5 b6 b7) 4 := ⟨_, rfl⟩
  rw [← hX, ← hY]
  have HX := Lib.hid hX
  have HY := Lib.hid hY
  clear hM hF hX hY
  go_enter Try.func67, Try.ntmps67
  go_upto_region 1 with fail
  obtain ⟨R, hR⟩ : ∃ R, R = w.heap.size + 1 := ⟨_, rfl⟩
  obtain ⟨w1, hw1⟩ : ∃ w1, w1 = (w.alloc (.cells #[.int .i64 n, .bool b0, .bool b1, .bool b2, .bool b3, .bool b4, .bool b5, .bool b6, .bool b7, .map (some M)] 58)).alloc (.cells #[.int .i64 0, .slice none 0 0, .slice none 0 0, .slice none 0 0] 29) := ⟨_, rfl⟩
  have A1 : Hid (Blk w1 w.heap.size 58 #[.int .i64 n, .bool b0, .bool b1, .bool b2, .bool b3, .bool b4, .bool b5, .bool b6, .bool b7, .map (some M)]) := by rw [hw1]; exact (Blk.new _ _ _).alloc _
  have R1 : Hid (Blk w1 R 29 #[.int .i64 0, .slice none 0 0, .slice none 0 0, .slice none 0 0]) := by rw [hw1, hR]; exact blk_new (by simp)
  have B1 : Hid (Below w.heap.size w w1) := by rw [hw1]; exact below_a2 w _ _
  rw [← hw1, ← hR]
  have hwR : w.heap.size ≤ R := by omega
  clear hw1 hR
  obtain ⟨p0, p1, p2, p3, p4, p5, p6, p7, p8, p9⟩ := ten_cells A1.out
  go_wp2_with fail
  refine (automaton_any n M cnt b0 b1 b2 b3 b4 b5 b6 b7 F _ (MM.out.below B1.out) hc HF.out).mono ?_
  rintro e w2 ⟨x1, x2, x3, us, rfl, ho, hlen, hpw, hmem, hb2⟩
  rw [← HX.out, ← HY.out] at ho
  have O2 := Lib.hid ho.out
  have R2 := Lib.hid (blk_b R1.out hb2.out)
  have B2 := Lib.hid (below_on B1.out hb2.out)
  obtain ⟨⟨E1, k1, e1, _⟩, ⟨E2, k2, e2, _⟩, ⟨E3, k3, e3, _⟩⟩ := O2.out.read
  subst e1
  subst e2
  subst e3
  have L2 : Hid (∀ j, (Value.slice E1 X.length k1).ownBlock = some j ∨ (Value.slice E2 Y.length k2).ownBlock = some j ∨ (Value.slice E3 us.length k3).ownBlock = some j → R < j) := fun j hj => by
    obtain ⟨h1, h2, h3, _⟩ := O2.out
    have hr := Blk.lt R1.out
    rcases hj with hj | hj | hj
    · have := (h1.lt j hj).1; omega
    · have := (h2.lt j hj).1; omega
    · have := (h3.lt j hj).1; omega
  have hw1 : w.heap.size ≤ w1.heap.size := B1.out.size
  have HM := Lib.hid hmem
  clear ho hb2 hmem p0 p1 p2 p3 p4 p5 p6 p7 p8 p9 A1 R1 B1
  go_upto_region 2 with fail
  obtain ⟨Q, hQ⟩ : ∃ Q, Q = w2.heap.size := ⟨_, rfl⟩
  rw [← hQ]
  obtain ⟨w3, hw3⟩ : ∃ w3, w3 = w2.alloc (.cells #[.int .i64 n, .slice E1 X.length k1, .slice E2 Y.length k2, .slice E3 us.length k3] 29) := ⟨_, rfl⟩
  rw [← hw3]
  have hb3 : Below w2.heap.size w2 w3 := by rw [hw3]; exact (Below.refl _ _).alloc (Nat.le_refl _) _
  have Q3 : Hid (Blk w3 Q 29 #[.int .i64 n, .slice E1 X.length k1, .slice E2 Y.length k2, .slice E3 us.length k3]) := by rw [hw3, hQ]; exact Blk.new _ _ _
  have O3 := Lib.hid (O2.out.under hb3)
  have R3 := Lib.hid (blk_b R2.out hb3)
  have B3 := Lib.hid (below_on B2.out hb3)
  obtain ⟨q0, q1, q2, q3⟩ := four_cells Q3.out
  obtain ⟨⟨_, _, e1, i1⟩, ⟨_, _, e2, i2⟩, ⟨_, _, e3, i3⟩⟩ := O3.out.read
  cases e1
  cases e2
  cases e3
  have I1 := Lib.hid i1
  have I2 := Lib.hid i2
  have I3 := Lib.hid i3
  obtain ⟨r, hr⟩ : ∃ r, autoOk n X Y us = r := ⟨_, rfl⟩
  have HR := Lib.hid hr
  clear hw3 hQ hb3 i1 i2 i3 hr O2 R2 B2
  go_wp2_with fail
  refine (iAutomatonValid_is n E1 E2 E3 k1 k2 k3 X Y us r _ I1.out I2.out I3.out HR.out).mono ?_
  rintro e w4 ⟨rfl, hb4⟩
  have O4 := Lib.hid (O3.out.under hb4.out)
  have R4 := Lib.hid (blk_b R3.out hb4.out)
  have Q4 := Lib.hid (blk_b Q3.out hb4.out)
  have B4 := Lib.hid (below_on B3.out hb4.out)
  have hw4 := B4.out.size
  clear O3 R3 Q3 B3 I1 I2 I3 hb4 q0 q1 q2 q3
  obtain ⟨d0, d1, d2, d3⟩ := four_cells R4.out
  obtain ⟨f0, f1, f2, f3⟩ := four_frozen R4.out
  cases r
  · go_wp2_with fail
    have HF' := four_set R4.out (.int .i64 0) (.slice none 0 0) (.slice none 0 0) (.slice none 0 0)
    have HG := four_grow w4 R (.int .i64 0) (.slice none 0 0) (.slice none 0 0) (.slice none 0 0)
    refine bodyPost_ret (results_2 rfl (Gives.row (g := R) rfl HF' Try.underlying29 rfl (by kernel_rfl)) (Gives.tmp rfl)) rfl ?_
    refine ⟨us, hlen, hpw, HM.out, ?_⟩
    have e0 : chkV n X Y us = noneV := by unfold chkV; rw [if_neg (by rw [HR.out]; decide)]
    rw [e0]
    exact ⟨_, _, _, rfl, AOwn.none _ _, B4.out.grown HG hw4 (fun j hj => by cases hj; exact hwR)⟩
  · obtain ⟨q0, q1, q2, q3⟩ := four_cells Q4.out
    go_wp2_with fail
    have HF' := four_set R4.out (.int .i64 n) (.slice E1 X.length k1) (.slice E2 Y.length k2) (.slice E3 us.length k3)
    have HG := four_grow w4 R (.int .i64 n) (.slice E1 X.length k1) (.slice E2 Y.length k2) (.slice E3 us.length k3)
    refine bodyPost_ret (results_2 rfl (Gives.row (g := R) rfl HF' Try.underlying29 rfl (by kernel_rfl)) (Gives.tmp rfl)) rfl ?_
    refine ⟨us, hlen, hpw, HM.out, ?_⟩
    have e0 : chkV n X Y us = ⟨n, X, Y, us, true⟩ := by unfold chkV; rw [if_pos HR.out]
    rw [e0]
    obtain ⟨h1, h2, h3, h4⟩ := O4.out
    exact ⟨_, _, _, rfl, ⟨own_base (h1.kept HG (own_ne (fun j hj e => by cases e; have := L2.out _ (Or.inl hj); omega))) hw1, own_base (h2.kept HG (own_ne (fun j hj e => by cases e; have := L2.out _ (Or.inr (Or.inl hj)); omega))) hw1, own4_base (h3.kept HG (own_ne (fun j hj e => by cases e; have := L2.out _ (Or.inr (Or.inr hj)); omega))) hw1, h4⟩, B4.out.grown HG hw4 (fun j hj => by cases hj; exact hwR)⟩
end Go.Proofs.Ytdfnlaclggjckaa
