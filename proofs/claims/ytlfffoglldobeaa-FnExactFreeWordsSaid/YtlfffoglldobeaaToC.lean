/- A copy of an automaton in rows of its own, as the exact laws make it. No condition but the sizes. -/
import Derived.Test.YtlfffoglldobeaaToB
import Derived.Test.YtlfffoglldobeaaCopyM
import Derived.Test.YtlfffoglldobeaaVar
namespace Go.Proofs.Ytlfffoglldobeaa
open Go.RowKit
set_option maxHeartbeats 2000000
set_option maxRecDepth 100000
set_option linter.unusedVariables false

theorem own_set_g {w : World} {base n k : Nat} {t t' : TypeId} {x : Value} {xs : List Value} {cs : Array Value} (ho : w.ownsRow base t 1 x n xs) (hk : Blk w k t' cs) (hne : t ≠ t') (i : Nat) (v : Value) : (w.setCell ⟨k, i, none⟩ v).ownsRow base t 1 x n xs := by
  refine ho.kept (grow_set w k i v) ?_
  have := own_other ho hk hne
  rcases h0 : x.ownBlock with _ | j
  · exact Or.inl rfl
  · right; intro he; exact this (by rw [h0]; exact he.symm)
/-- An automaton that a call has copied, with rows of its own. -/
def CopB (m : Int) (xs ys : List Int) (ss : List StepD) (w : World) (e : Ending) (w' : World) : Prop :=
  ∃ g1 g2 g3, e = .returned (.agg #[.int .i64 m, .slice (some ⟨g1, 0, none⟩) xs.length xs.length, .slice (some ⟨g2, 0, none⟩) ys.length ys.length, .slice (some ⟨g3, 0, none⟩) ss.length ss.length]) ∧
    w.heap.size ≤ g1 ∧ g1 < g2 ∧ g2 < g3 ∧ Hid (w'.ownsRow w.heap.size 3 1 (.slice (some ⟨g1, 0, none⟩) xs.length xs.length) xs.length (xs.map (Value.int .i64))) ∧ Hid (w'.ownsRow w.heap.size 3 1 (.slice (some ⟨g2, 0, none⟩) ys.length ys.length) ys.length (ys.map (Value.int .i64))) ∧ Hid (SBlk w' g3 67 ss) ∧ Hid (Below w.heap.size w w')
theorem toAutomaton_own (m : Int) (A1 A2 A3 : Option Addr) (c1 c2 c3 : Nat) (xs ys : List Int) (ss : List StepD) (w : World) (hx : Ints w w.heap.size A1 xs) (hy : Ints w w.heap.size A2 ys) (hs : SRow w w.heap.size A3 ss) (lx : xs.length ≤ 1048576) (ly : ys.length ≤ 1048576) (ls : ss.length ≤ 1048576) :
    Calls Try.prog 6 #[.agg #[.int .i64 m, .slice A1 xs.length c1, .slice A2 ys.length c2, .slice A3 ss.length c3]] w fun e w' => CopB m xs ys ss w e w' := by
  have HX := Lib.hid hx
  have HY := Lib.hid hy
  have HS := Lib.hid hs
  clear hx hy hs
  obtain ⟨R, hR⟩ : ∃ R, R = w.heap.size + 1 := ⟨_, rfl⟩
  obtain ⟨Q, hQ⟩ : ∃ Q, Q = w.heap.size + 1 + 1 := ⟨_, rfl⟩
  have HX0 := Lib.hid (ints_al (ints_al (ints_al HX.out (.cells #[.int .i64 m, .slice A1 xs.length c1, .slice A2 ys.length c2, .slice A3 ss.length c3] 25)) (.cells #[.int .i64 0, .slice none 0 0, .slice none 0 0, .slice none 0 0] 32)) (.cells #[.int .i64 m, .slice none 0 0, .slice none 0 0, .slice none 0 0] 32))
  have B0 := Lib.hid (below_a3 w (.cells #[.int .i64 m, .slice A1 xs.length c1, .slice A2 ys.length c2, .slice A3 ss.length c3] 25) (.cells #[.int .i64 0, .slice none 0 0, .slice none 0 0, .slice none 0 0] 32) (.cells #[.int .i64 m, .slice none 0 0, .slice none 0 0, .slice none 0 0] 32))
  have K0 := Lib.hid (((Blk.new w 25 #[.int .i64 m, .slice A1 xs.length c1, .slice A2 ys.length c2, .slice A3 ss.length c3]).alloc (.cells #[.int .i64 0, .slice none 0 0, .slice none 0 0, .slice none 0 0] 32)).alloc (.cells #[.int .i64 m, .slice none 0 0, .slice none 0 0, .slice none 0 0] 32))
  have R0 : Hid (Blk (((w.alloc (.cells #[.int .i64 m, .slice A1 xs.length c1, .slice A2 ys.length c2, .slice A3 ss.length c3] 25)).alloc (.cells #[.int .i64 0, .slice none 0 0, .slice none 0 0, .slice none 0 0] 32)).alloc (.cells #[.int .i64 m, .slice none 0 0, .slice none 0 0, .slice none 0 0] 32)) R 32 #[.int .i64 0, .slice none 0 0, .slice none 0 0, .slice none 0 0]) := (blk_new (by rw [hR]; simp)).alloc (.cells #[.int .i64 m, .slice none 0 0, .slice none 0 0, .slice none 0 0] 32)
  have Q0 : Hid (Blk (((w.alloc (.cells #[.int .i64 m, .slice A1 xs.length c1, .slice A2 ys.length c2, .slice A3 ss.length c3] 25)).alloc (.cells #[.int .i64 0, .slice none 0 0, .slice none 0 0, .slice none 0 0] 32)).alloc (.cells #[.int .i64 m, .slice none 0 0, .slice none 0 0, .slice none 0 0] 32)) Q 32 #[.int .i64 m, .slice none 0 0, .slice none 0 0, .slice none 0 0]) := blk_new (by rw [hQ]; simp)
  have hsz0 : (((w.alloc (.cells #[.int .i64 m, .slice A1 xs.length c1, .slice A2 ys.length c2, .slice A3 ss.length c3] 25)).alloc (.cells #[.int .i64 0, .slice none 0 0, .slice none 0 0, .slice none 0 0] 32)).alloc (.cells #[.int .i64 m, .slice none 0 0, .slice none 0 0, .slice none 0 0] 32)).heap.size = Q + 1 := by rw [hQ]; simp
  have HSZ := Lib.hid hsz0
  have HRQ := Lib.hid (show R + 1 = Q by omega)
  have HWR := Lib.hid (show w.heap.size + 1 = R by omega)
  have HQE := Lib.hid hQ
  have HRE := Lib.hid hR
  clear HX hsz0 hQ hR
  go_enter Try.func6, Try.ntmps6
  go_wp2_with fail
  have n1 : ¬ Q = R := by have := HRQ.out; omega
  have n2 : ¬ Q = w.heap.size := by have := HRQ.out; have := HWR.out; omega
  have n3 : ¬ R = w.heap.size := by have := HWR.out; omega
  have n4 : w.heap.size ≤ Q := by have := HRQ.out; have := HWR.out; omega
  have n5 : w.heap.size ≤ R := by have := HWR.out; omega
  refine (toIntS_own _ _ _ _ HX0.out (by omega)).mono ?_
  rintro e w1 ⟨g1, rfl, hb1, hg1, hi1'⟩
  have hi1 := own_base hi1' (show w.heap.size ≤ _ by simp; omega)
  have hg1w := (hi1.lt g1 rfl).2
  clear hi1'
  have HG1 := Lib.hid (show w.heap.size ≤ g1 by simp at hg1; omega)
  rw [← HQE.out, ← HRE.out]
  have B1 := Lib.hid (below_on B0.out hb1)
  have K1 := Lib.hid (blk_b K0.out hb1)
  have R1 := Lib.hid (blk_b R0.out hb1)
  have Q1 := Lib.hid (blk_b Q0.out hb1)
  have I1 := Lib.hid hi1
  have m1 : ¬ Q = g1 := by have := HSZ.out; omega
  have m1r : ¬ R = g1 := by have := HSZ.out; have := HRQ.out; omega
  clear HX0 B0 K0 R0 Q0 hb1 hi1 hg1
  have B2 := Lib.hid (B1.out.setCell (p := ⟨Q, 1, none⟩) n4 (.slice (some ⟨g1, 0, none⟩) xs.length xs.length))
  have K2 := Lib.hid (K1.out.other Q 1 (.slice (some ⟨g1, 0, none⟩) xs.length xs.length) n2)
  have R2 := Lib.hid (R1.out.other Q 1 (.slice (some ⟨g1, 0, none⟩) xs.length xs.length) n1)
  have Q2 : Hid (Blk (w1.setCell ⟨Q, 1, none⟩ (.slice (some ⟨g1, 0, none⟩) xs.length xs.length)) Q 32 #[.int .i64 m, .slice (some ⟨g1, 0, none⟩) xs.length xs.length, .slice none 0 0, .slice none 0 0]) := Q1.out.set_ 1 _
  have I2 := Lib.hid (own_set_g I1.out Q1.out (by decide) 1 (.slice (some ⟨g1, 0, none⟩) xs.length xs.length))
  obtain ⟨k0, k1, k2, k3⟩ := four_cells K1.out
  obtain ⟨q0, q1, q2, q3⟩ := four_cells Q1.out
  obtain ⟨f0, f1, f2, f3⟩ := four_frozen Q1.out
  go_wp2_with fail
  refine (toIntS_own _ _ _ _ ((HY.out.below B2.out).more B2.out.size) (by omega)).mono ?_
  rintro e w3 ⟨g2, rfl, hb3, hg2, hi3'⟩
  have hi3 := own_base hi3' (show w.heap.size ≤ _ from B2.out.size)
  have hg2w := (hi3.lt g2 rfl).2
  clear hi3'
  have HG2 := Lib.hid (show g1 < g2 by have := set_size w1 ⟨Q, 1, none⟩ (.slice (some ⟨g1, 0, none⟩) xs.length xs.length); omega)
  have B3 := Lib.hid (below_on B2.out hb3)
  have K3 := Lib.hid (blk_b K2.out hb3)
  have R3 := Lib.hid (blk_b R2.out hb3)
  have Q3 := Lib.hid (blk_b Q2.out hb3)
  have I3 := Lib.hid (own_under I2.out hb3)
  have J3 := Lib.hid hi3
  have m2 : ¬ Q = g2 := by have := Blk.lt Q2.out; omega
  have m2r : ¬ R = g2 := by have := Blk.lt R2.out; omega
  clear B1 K1 R1 Q1 I1 B2 K2 R2 Q2 I2 hb3 hi3 hg2 k0 k1 k2 k3 q0 q1 q2 q3 f0 f1 f2 f3
  have B4 := Lib.hid (B3.out.setCell (p := ⟨Q, 2, none⟩) n4 (.slice (some ⟨g2, 0, none⟩) ys.length ys.length))
  have K4 := Lib.hid (K3.out.other Q 2 (.slice (some ⟨g2, 0, none⟩) ys.length ys.length) n2)
  have R4 := Lib.hid (R3.out.other Q 2 (.slice (some ⟨g2, 0, none⟩) ys.length ys.length) n1)
  have Q4 : Hid (Blk (w3.setCell ⟨Q, 2, none⟩ (.slice (some ⟨g2, 0, none⟩) ys.length ys.length)) Q 32 #[.int .i64 m, .slice (some ⟨g1, 0, none⟩) xs.length xs.length, .slice (some ⟨g2, 0, none⟩) ys.length ys.length, .slice none 0 0]) := Q3.out.set_ 2 _
  have I4 := Lib.hid (own_set_g I3.out Q3.out (by decide) 2 (.slice (some ⟨g2, 0, none⟩) ys.length ys.length))
  have J4 := Lib.hid (own_set_g J3.out Q3.out (by decide) 2 (.slice (some ⟨g2, 0, none⟩) ys.length ys.length))
  obtain ⟨k0, k1, k2, k3⟩ := four_cells K3.out
  obtain ⟨q0, q1, q2, q3⟩ := four_cells Q3.out
  obtain ⟨f0, f1, f2, f3⟩ := four_frozen Q3.out
  go_wp2_with fail
  refine (toStepS_any _ _ _ _ (HS.out.on B4.out) ls).mono ?_
  rintro e w5 ⟨g3, rfl, hg3, T5, hb5⟩
  have HG3 := Lib.hid (show g2 < g3 by have := set_size w3 ⟨Q, 2, none⟩ (.slice (some ⟨g2, 0, none⟩) ys.length ys.length); omega)
  have B5 := Lib.hid (below_on B4.out hb5.out)
  have R5 := Lib.hid (blk_b R4.out hb5.out)
  have Q5 := Lib.hid (blk_b Q4.out hb5.out)
  have I5 := Lib.hid (own_under I4.out hb5.out)
  have J5 := Lib.hid (own_under J4.out hb5.out)
  have m3 : ¬ Q = g3 := by have := Blk.lt Q4.out; omega
  have m3r : ¬ R = g3 := by have := Blk.lt R4.out; omega
  clear B3 K3 R3 Q3 I3 J3 B4 K4 R4 Q4 I4 J4 hb5 hg3 k0 k1 k2 k3 q0 q1 q2 q3 f0 f1 f2 f3
  have R6 := Lib.hid (R5.out.other Q 3 (.slice (some ⟨g3, 0, none⟩) ss.length ss.length) n1)
  obtain ⟨q0, q1, q2, q3⟩ := four_cells Q5.out
  obtain ⟨f0, f1, f2, f3⟩ := four_frozen Q5.out
  obtain ⟨r0, r1, r2, r3⟩ := four_cells R5.out
  obtain ⟨e0, e1, e2, e3⟩ := four_frozen R5.out
  go_wp2_with fail
  have HF := (((R6.out.set_ 0 (.int .i64 m)).set_ 1 (.slice (some ⟨g1, 0, none⟩) xs.length xs.length)).set_ 2 (.slice (some ⟨g2, 0, none⟩) ys.length ys.length)).set_ 3 (.slice (some ⟨g3, 0, none⟩) ss.length ss.length)
  have RA := Lib.hid (R6.out.set_ 0 (.int .i64 m))
  have RB := Lib.hid (RA.out.set_ 1 (.slice (some ⟨g1, 0, none⟩) xs.length xs.length))
  have RC := Lib.hid (RB.out.set_ 2 (.slice (some ⟨g2, 0, none⟩) ys.length ys.length))
  have HI := Lib.hid (own_set_g (own_set_g (own_set_g (own_set_g (own_set_g I5.out Q5.out (by decide) 3 (.slice (some ⟨g3, 0, none⟩) ss.length ss.length)) R6.out (by decide) 0 (.int .i64 m)) RA.out (by decide) 1 (.slice (some ⟨g1, 0, none⟩) xs.length xs.length)) RB.out (by decide) 2 (.slice (some ⟨g2, 0, none⟩) ys.length ys.length)) RC.out (by decide) 3 (.slice (some ⟨g3, 0, none⟩) ss.length ss.length))
  have HJ := Lib.hid (own_set_g (own_set_g (own_set_g (own_set_g (own_set_g J5.out Q5.out (by decide) 3 (.slice (some ⟨g3, 0, none⟩) ss.length ss.length)) R6.out (by decide) 0 (.int .i64 m)) RA.out (by decide) 1 (.slice (some ⟨g1, 0, none⟩) xs.length xs.length)) RB.out (by decide) 2 (.slice (some ⟨g2, 0, none⟩) ys.length ys.length)) RC.out (by decide) 3 (.slice (some ⟨g3, 0, none⟩) ss.length ss.length))
  have HT := Lib.hid (sblk_other (sblk_other (sblk_other (sblk_other (sblk_other T5.out Q 3 (.slice (some ⟨g3, 0, none⟩) ss.length ss.length) m3) R 0 (.int .i64 m) m3r) R 1 (.slice (some ⟨g1, 0, none⟩) xs.length xs.length) m3r) R 2 (.slice (some ⟨g2, 0, none⟩) ys.length ys.length) m3r) R 3 (.slice (some ⟨g3, 0, none⟩) ss.length ss.length) m3r)
  have HBB := Lib.hid (Below.setCell (p := ⟨R, 3, none⟩) (Below.setCell (p := ⟨R, 2, none⟩) (Below.setCell (p := ⟨R, 1, none⟩) (Below.setCell (p := ⟨R, 0, none⟩) (Below.setCell (p := ⟨Q, 3, none⟩) B5.out n4 (.slice (some ⟨g3, 0, none⟩) ss.length ss.length)) n5 (.int .i64 m)) n5 (.slice (some ⟨g1, 0, none⟩) xs.length xs.length)) n5 (.slice (some ⟨g2, 0, none⟩) ys.length ys.length)) n5 (.slice (some ⟨g3, 0, none⟩) ss.length ss.length))
  clear q0 q1 q2 q3 f0 f1 f2 f3 r0 r1 r2 r3 e0 e1 e2 e3
  refine bodyPost_ret (results_1 rfl (Gives.row (g := R) rfl HF Try.underlying32 rfl (by kernel_rfl))) rfl ?_
  exact ⟨g1, g2, g3, rfl, HG1.out, HG2.out, HG3.out, HI, HJ, HT, HBB⟩
end Go.Proofs.Ytlfffoglldobeaa
