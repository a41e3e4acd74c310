/- The model's copy of an automaton: three new slices. Condition: the slices that it takes are at addresses, and no longer than a few. -/
import Derived.Test.YtdfnlaclggjckaaListA
import Derived.Test.YtdfnlaclggjckaaOwnK
import Derived.Test.YtdfnlaclggjckaaCopyM
namespace Go.Proofs.Ytdfnlaclggjckaa
open Go.RowKit
set_option maxHeartbeats 4000000
set_option maxRecDepth 100000
set_option linter.unusedVariables false

theorem add_at (b off j : Nat) : (⟨b, off, none⟩ : Addr).add j = ⟨b, off + j, none⟩ := by
  unfold Addr.add
  split <;> simp_all
theorem news_ints {w : World} {B : Nat} {a : Addr} {zs : List Int} (h : Ints w B (some a) zs) : ∀ j u, (zs.map (Value.int .i64))[j]? = some u → w.cell? (a.add j) = some u := by
  intro j u hj
  have hl : j < zs.length := by
    rcases Nat.lt_or_ge j zs.length with h1 | h1
    · exact h1
    · rw [List.getElem?_eq_none (by simpa using h1)] at hj; cases hj
  obtain ⟨b, off, z, e, _, hc, _, hz⟩ := h.at_ hl
  cases e
  rw [add_at, hc, ← hz]
  rw [List.getElem?_map, List.getElem?_eq_getElem hl] at hj
  rw [List.getD_eq_getElem?_getD, List.getElem?_eq_getElem hl]
  simpa using hj
theorem news_steps {w : World} {B : Nat} {a : Addr} {ss : List StepD} (h : SRow w B (some a) ss) : ∀ j u, (flatS ss)[j]? = some u → w.cell? (a.add j) = some u := by
  intro j u hj
  have hl : j < ss.length * 4 := by
    rcases Nat.lt_or_ge j (ss.length * 4) with h1 | h1
    · exact h1
    · rw [List.getElem?_eq_none (by rw [flatS_len]; exact h1)] at hj; cases hj
  have hk : j / 4 < ss.length := by omega
  obtain ⟨b, off, s, e, _, hc, _, _, hs⟩ := h.at_ hk
  cases e
  obtain ⟨f0, f1, f2, f3⟩ := flatS_get ss (j / 4) hk
  rw [hs] at f0 f1 f2 f3
  obtain ⟨c0, c1, c2, c3⟩ := hc
  rw [add_at]
  have hc4 : j % 4 = 0 ∨ j % 4 = 1 ∨ j % 4 = 2 ∨ j % 4 = 3 := by omega
  rcases hc4 with c | c | c | c
  · have e : j = j / 4 * 4 := by omega
    rw [e, f0] at hj; cases hj; rw [e]; exact c0
  · have e : j = j / 4 * 4 + 1 := by omega
    rw [e, f1] at hj; cases hj; rw [e, ← Nat.add_assoc]; exact c1
  · have e : j = j / 4 * 4 + 2 := by omega
    rw [e, f2] at hj; cases hj; rw [e, ← Nat.add_assoc]; exact c2
  · have e : j = j / 4 * 4 + 3 := by omega
    rw [e, f3] at hj; cases hj; rw [e, ← Nat.add_assoc]; exact c3
theorem one_ints (zs : List Int) : ∀ u ∈ zs.map (Value.int .i64), u.oneCell' = true := fun u hu => by
  rw [List.mem_map] at hu
  obtain ⟨z, _, rfl⟩ := hu
  rfl
theorem one_steps (ss : List StepD) : ∀ u ∈ flatS ss, u.oneCell' = true := by
  induction ss with
  | nil => intro u hu; cases hu
  | cons s ss ih =>
    intro u hu
    simp [flatS] at hu
    rcases hu with rfl | rfl | rfl | rfl | h
    · rfl
    · rfl
    · rfl
    · rfl
    · exact ih u h
theorem sOwn_any (m : Int) (a1 a2 a3 : Addr) (c1 c2 c3 : Nat) (xs ys : List Int) (ss : List StepD) (w : World) (hx : Ints w w.heap.size (some a1) xs) (hy : Ints w w.heap.size (some a2) ys) (hs : SRow w w.heap.size (some a3) ss) (lx : xs.length ≤ 1048576) (ly : ys.length ≤ 1048576) (ls : ss.length ≤ 1048576) :
    Calls Try.prog 62 #[.agg #[.int .i64 m, .slice (some a1) xs.length c1, .slice (some a2) ys.length c2, .slice (some a3) ss.length c3]] w fun e w' => ∃ x1 x2 x3, e = .returned (.agg #[.int .i64 m, x1, x2, x3]) ∧ Hid (AOwn w' w.heap.size x1 x2 x3 xs ys ss) ∧ Hid (Below w.heap.size w w') := by
  obtain ⟨i0, hi, hz0, hz1, hz2⟩ := info_parts info_int
  have Z0 := Lib.hid hz0
  have Z1 := Lib.hid hz1
  have Z2 := Lib.hid hz2
  have ZI := Lib.hid hi
  obtain ⟨j0, kj, kz0, kz1, kz2⟩ := info_step'
  have Y0 := Lib.hid kz0
  have Y1 := Lib.hid kz1
  have Y2 := Lib.hid kz2
  have YI := Lib.hid kj
  have HX := Lib.hid hx
  have HY := Lib.hid hy
  have HS := Lib.hid hs
  clear hz0 hz1 hz2 hi kz0 kz1 kz2 kj hx hy hs
  go_enter Try.func62, Try.ntmps62
  go_upto_region 1 with fail
  obtain ⟨A, hA⟩ : ∃ A, A = w.heap.size := ⟨_, rfl⟩
  obtain ⟨R, hR⟩ : ∃ R, R = w.heap.size + 1 := ⟨_, rfl⟩
  obtain ⟨w1, hw1⟩ : ∃ w1, w1 = (w.alloc (.cells #[.int .i64 m, .slice (some a1) xs.length c1, .slice (some a2) ys.length c2, .slice (some a3) ss.length c3] 29)).alloc (.cells #[.int .i64 0, .slice none 0 0, .slice none 0 0, .slice none 0 0] 29) := ⟨_, rfl⟩
  have A1 : Hid (Blk w1 A 29 #[.int .i64 m, .slice (some a1) xs.length c1, .slice (some a2) ys.length c2, .slice (some a3) ss.length c3]) := by rw [hw1, hA]; exact (Blk.new _ _ _).alloc _
  have R1 : Hid (Blk w1 R 29 #[.int .i64 0, .slice none 0 0, .slice none 0 0, .slice none 0 0]) := by rw [hw1, hR]; exact blk_new (by simp)
  have B1 : Hid (Below w.heap.size w w1) := by rw [hw1]; exact below_a2 w _ _
  have hs1 : w1.heap.size = R + 1 := by rw [hw1, hR]; simp
  rw [← hw1, ← hR, ← hA]
  have hAR : A < R := by omega
  have hwA : w.heap.size ≤ A := by omega
  have hA1 : A < w1.heap.size := by omega
  have hR1 : R < w1.heap.size := by omega
  clear hw1 hA hR hs1
  have X1 := Lib.hid ((HX.out.below B1.out).more B1.out.size)
  have Y1' := Lib.hid ((HY.out.below B1.out).more B1.out.size)
  have S1 := Lib.hid ((HS.out.below B1.out).more B1.out.size)
  obtain ⟨p0, p1, p2, p3⟩ := four_cells A1.out
  obtain ⟨f0, f1, f2, f3⟩ := four_frozen A1.out
  have N1 : Hid (w1.alloc (.cells #[] 3) |>.ownsRow w1.heap.size 3 1 (.slice (some ⟨w1.heap.size, 0, none⟩) 0 0) 0 []) := World.ownsRow_made w1 #[] 0 (Nat.le_refl _) (by unfold maxLen; omega) rfl
  go_wp2_with (first
    | (at_builtin; refine wpList_append_own _ rfl _ _ 22 rfl w1.heap.size 3 i0 (.int .i64 0) 1 8 Try.underlying22 ZI.out Z0.out Z1.out Z2.out rfl (by decide) _ _ _ rfl N1.out a1 xs.length c1 (xs.map (Value.int .i64)) rfl (by simp) ?n1 (one_ints xs) ?p1 ?q1 ?r1 ?_)
    | fail)
  case n1 => exact news_ints (ints_al X1.out _)
  case p1 => unfold maxLen; omega
  case q1 => omega
  case r1 => exact ((Below.refl _ _).alloc (Nat.le_refl _) _).size
  intro x1 w2 hown2 hg2 _
  obtain ⟨E1, k1, rfl, _, _⟩ := own_ints hown2 (by unfold maxLen; omega)
  have hg2' : w1.grownBy w2 none := grow_new hg2
  have A2 := Lib.hid (A1.out.stay hg2' (by simp))
  have R2 := Lib.hid (R1.out.stay hg2' (by simp))
  have B2 := Lib.hid (B1.out.grown hg2' B1.out.size (fun j hj => by cases hj))
  have O2 := Lib.hid (own_base hown2 (show A ≤ _ by omega))
  have L2 : Hid (∀ j, (Value.slice E1 xs.length k1).ownBlock = some j → R < j ∧ j < w2.heap.size) := fun j hj => by have := hown2.lt j hj; omega
  have X2 := Lib.hid (Y1'.out.below (below_of_grown hg2'))
  have S2 := Lib.hid (S1.out.below (below_of_grown hg2'))
  have hs2 : w1.heap.size ≤ w2.heap.size := hg2'.size
  have hA2 := Blk.lt A2.out
  have hwR2 : w.heap.size ≤ w2.heap.size := B2.out.size
  clear p0 p1 p2 p3 f0 f1 f2 f3 hown2 hg2 hg2' A1 R1 B1 X1 Y1' S1 N1
  obtain ⟨p0, p1, p2, p3⟩ := four_cells A2.out
  obtain ⟨f0, f1, f2, f3⟩ := four_frozen A2.out
  go_upto_region 2 with fail
  obtain ⟨w3, hw3⟩ : ∃ w3, w3 = w2.setCell ⟨A, 1, none⟩ (.slice E1 xs.length k1) := ⟨_, rfl⟩
  have hg3 : w2.grownBy w3 (some A) := by rw [hw3]; exact grow_set w2 A 1 (.slice E1 xs.length k1)
  have A3 : Hid (Blk w3 A 29 #[.int .i64 m, (.slice E1 xs.length k1), .slice (some a2) ys.length c2, .slice (some a3) ss.length c3]) := by rw [hw3]; exact A2.out.set_ 1 (.slice E1 xs.length k1)
  rw [← hw3]
  clear hw3
  have R3 := Lib.hid (R2.out.stay hg3 (by intro e; cases e; omega))
  have B3 := Lib.hid (B2.out.grown hg3 B2.out.size (fun j hj => by cases hj; exact hwA))
  have O3 := Lib.hid (O2.out.kept hg3 (own_ne (fun j hj e => by cases e; have := (L2.out _ hj).1; omega)))
  have L3 : Hid (∀ j, (Value.slice E1 xs.length k1).ownBlock = some j → R < j ∧ j < w3.heap.size) := fun j hj => by have := L2.out j hj; have := hg3.size; omega
  have hbw3 : Below w.heap.size w2 w3 := (Below.refl _ _).grown hg3 (by omega) (fun j hj => by cases hj; exact hwA)
  have X3 : Hid (Ints w3 w3.heap.size (some a2) ys) := (HY.out.below B3.out).more B3.out.size
  have S3 : Hid (SRow w3 w3.heap.size (some a3) ss) := (HS.out.below B3.out).more B3.out.size
  have hA3 := Blk.lt A3.out
  have hR3 := Blk.lt R3.out
  have hwR3 : w.heap.size ≤ w3.heap.size := B3.out.size
  clear p0 p1 p2 p3 f0 f1 f2 f3 A2 R2 B2 O2 L2 X2 S2 hg3 hbw3 hs2 hA2 hwR2 hA1 hR1
  obtain ⟨p0, p1, p2, p3⟩ := four_cells A3.out
  obtain ⟨f0, f1, f2, f3⟩ := four_frozen A3.out
  have N3 : Hid (w3.alloc (.cells #[] 3) |>.ownsRow w3.heap.size 3 1 (.slice (some ⟨w3.heap.size, 0, none⟩) 0 0) 0 []) := World.ownsRow_made w3 #[] 0 (Nat.le_refl _) (by unfold maxLen; omega) rfl
  go_wp2_with (first
    | (at_builtin; refine wpList_append_own _ rfl _ _ 22 rfl w3.heap.size 3 i0 (.int .i64 0) 1 8 Try.underlying22 ZI.out Z0.out Z1.out Z2.out rfl (by decide) _ _ _ rfl N3.out a2 ys.length c2 (ys.map (Value.int .i64)) rfl (by simp) ?n3 (one_ints ys) ?p3 ?q3 ?r3 ?_)
    | fail)
  case n3 => exact news_ints (ints_al X3.out _)
  case p3 => unfold maxLen; omega
  case q3 => omega
  case r3 => exact ((Below.refl _ _).alloc (Nat.le_refl _) _).size
  intro x2 w4 hown4 hg4 _
  obtain ⟨E2, k2, rfl, _, _⟩ := own_ints hown4 (by unfold maxLen; omega)
  have hg4' : w3.grownBy w4 none := grow_new hg4
  have A4 := Lib.hid (A3.out.stay hg4' (by simp))
  have R4 := Lib.hid (R3.out.stay hg4' (by simp))
  have B4 := Lib.hid (B3.out.grown hg4' B3.out.size (fun j hj => by cases hj))
  have O4 := Lib.hid (O3.out.kept hg4' (own_ne_none (.slice E1 xs.length k1)))
  have D4 : Hid ((Value.slice E1 xs.length k1).ownBlock = none ∨ (Value.slice E1 xs.length k1).ownBlock ≠ (Value.slice E2 ys.length k2).ownBlock) := own_ne (fun j hj e => by have := (hown4.lt j e).1; have := (L3.out j hj).2; omega)
  have P4 := Lib.hid (own_base hown4 (show A ≤ _ by omega))
  have L4 : Hid (∀ j, (Value.slice E1 xs.length k1).ownBlock = some j → R < j) := fun j hj => (L3.out j hj).1
  have M4 : Hid (∀ j, (Value.slice E2 ys.length k2).ownBlock = some j → R < j) := fun j hj => by have := (hown4.lt j hj).1; omega
  have hA4 := Blk.lt A4.out
  clear p0 p1 p2 p3 f0 f1 f2 f3 hown4 hg4 hg4' A3 R3 B3 X3 S3 N3 O3 L3 hA3 hR3 hwR3
  obtain ⟨p0, p1, p2, p3⟩ := four_cells A4.out
  obtain ⟨f0, f1, f2, f3⟩ := four_frozen A4.out
  have hwR4 : w.heap.size ≤ w4.heap.size := B4.out.size
  go_upto_region 3 with fail
  obtain ⟨w5, hw5⟩ : ∃ w5, w5 = w4.setCell ⟨A, 2, none⟩ (.slice E2 ys.length k2) := ⟨_, rfl⟩
  have hg5 : w4.grownBy w5 (some A) := by rw [hw5]; exact grow_set w4 A 2 (.slice E2 ys.length k2)
  have A5 : Hid (Blk w5 A 29 #[.int .i64 m, (.slice E1 xs.length k1), (.slice E2 ys.length k2), .slice (some a3) ss.length c3]) := by rw [hw5]; exact A4.out.set_ 2 (.slice E2 ys.length k2)
  rw [← hw5]
  clear hw5
  have R5 := Lib.hid (R4.out.stay hg5 (by intro e; cases e; omega))
  have B5 := Lib.hid (B4.out.grown hg5 hwR4 (fun j hj => by cases hj; exact hwA))
  have O5 := Lib.hid (O4.out.kept hg5 (own_ne (fun j hj e => by cases e; have := L4.out _ hj; omega)))
  have P5 := Lib.hid (P4.out.kept hg5 (own_ne (fun j hj e => by cases e; have := M4.out _ hj; omega)))
  have S5 : Hid (SRow w5 w5.heap.size (some a3) ss) := (HS.out.below B5.out).more B5.out.size
  have hA5 := Blk.lt A5.out
  have hR5 := Blk.lt R5.out
  have hwR5 : w.heap.size ≤ w5.heap.size := B5.out.size
  clear p0 p1 p2 p3 f0 f1 f2 f3 A4 R4 B4 O4 P4 hg5 hA4 hwR4
  obtain ⟨p0, p1, p2, p3⟩ := four_cells A5.out
  obtain ⟨f0, f1, f2, f3⟩ := four_frozen A5.out
  have N5 : Hid (w5.alloc (.cells #[] 73) |>.ownsRow w5.heap.size 73 4 (.slice (some ⟨w5.heap.size, 0, none⟩) 0 0) 0 []) := World.ownsRow_made w5 #[] 0 (Nat.le_refl _) (by unfold maxLen; omega) rfl
  go_wp2_with (first
    | (at_builtin; refine wpList_append_own _ rfl _ _ 27 rfl w5.heap.size 73 j0 (.agg #[.int .i64 0, .string ByteArray.empty, .int .i64 0, .int .i64 0]) 4 40 Try.underlying27 YI.out Y0.out Y1.out Y2.out rfl (by decide) _ _ _ rfl N5.out a3 ss.length c3 (flatS ss) rfl (flatS_len ss) ?n5 (one_steps ss) ?p5 ?q5 ?r5 ?_)
    | fail)
  case n5 => exact news_steps (S5.out.al _)
  case p5 => unfold maxLen; omega
  case q5 => omega
  case r5 => exact ((Below.refl _ _).alloc (Nat.le_refl _) _).size
  intro x3 w6 hown6 hg6 _
  obtain ⟨E3, k3, rfl, _⟩ := own_read4 hown6 rfl (by omega) HS.out.2.1
  have hg6' : w5.grownBy w6 none := grow_new hg6
  have A6 := Lib.hid (A5.out.stay hg6' (by simp))
  have R6 := Lib.hid (R5.out.stay hg6' (by simp))
  have B6 := Lib.hid (B5.out.grown hg6' B5.out.size (fun j hj => by cases hj))
  have O6 := Lib.hid (O5.out.kept hg6' (own_ne_none (.slice E1 xs.length k1)))
  have P6 := Lib.hid (P5.out.kept hg6' (own_ne_none (.slice E2 ys.length k2)))
  have Q6 := Lib.hid (own4_base hown6 (show A ≤ _ by omega))
  have T6 : Hid (∀ j, (Value.slice E3 ss.length k3).ownBlock = some j → R < j) := fun j hj => by have := (hown6.lt j hj).1; omega
  have hA6 := Blk.lt A6.out
  have hwR6 : w.heap.size ≤ w6.heap.size := B6.out.size
  clear p0 p1 p2 p3 f0 f1 f2 f3 hown6 hg6 hg6' A5 R5 B5 S5 N5 O5 P5 hA5 hR5 hwR5
  obtain ⟨p0, p1, p2, p3⟩ := four_cells A6.out
  obtain ⟨f0, f1, f2, f3⟩ := four_frozen A6.out
  go_upto_region 4 with fail
  obtain ⟨w7, hw7⟩ : ∃ w7, w7 = w6.setCell ⟨A, 3, none⟩ (.slice E3 ss.length k3) := ⟨_, rfl⟩
  have hg7 : w6.grownBy w7 (some A) := by rw [hw7]; exact grow_set w6 A 3 (.slice E3 ss.length k3)
  have A7 : Hid (Blk w7 A 29 #[.int .i64 m, (.slice E1 xs.length k1), (.slice E2 ys.length k2), (.slice E3 ss.length k3)]) := by rw [hw7]; exact A6.out.set_ 3 (.slice E3 ss.length k3)
  rw [← hw7]
  clear hw7
  have R7 := Lib.hid (R6.out.stay hg7 (by intro e; cases e; omega))
  have B7 := Lib.hid (B6.out.grown hg7 hwR6 (fun j hj => by cases hj; exact hwA))
  have O7 := Lib.hid (O6.out.kept hg7 (own_ne (fun j hj e => by cases e; have := L4.out _ hj; omega)))
  have P7 := Lib.hid (P6.out.kept hg7 (own_ne (fun j hj e => by cases e; have := M4.out _ hj; omega)))
  have Q7 := Lib.hid (Q6.out.kept hg7 (own_ne (fun j hj e => by cases e; have := T6.out _ hj; omega)))
  have hwR7 : w.heap.size ≤ w7.heap.size := B7.out.size
  clear p0 p1 p2 p3 f0 f1 f2 f3 A6 R6 B6 O6 P6 Q6 hg7 hA6 hwR6
  obtain ⟨p0, p1, p2, p3⟩ := four_cells A7.out
  obtain ⟨r0, r1, r2, r3⟩ := four_cells R7.out
  obtain ⟨f0, f1, f2, f3⟩ := four_frozen R7.out
  go_wp2_with fail
  have HF := (((R7.out.set_ 0 (.int .i64 m)).set_ 1 (.slice E1 xs.length k1)).set_ 2 (.slice E2 ys.length k2)).set_ 3 (.slice E3 ss.length k3)
  have HG : w7.grownBy ((((w7.setCell ⟨R, 0, none⟩ (.int .i64 m)).setCell ⟨R, 1, none⟩ (.slice E1 xs.length k1)).setCell ⟨R, 2, none⟩ (.slice E2 ys.length k2)).setCell ⟨R, 3, none⟩ (.slice E3 ss.length k3)) (some R) := grow_trans (grow_trans (grow_trans (grow_set _ R _ _) (grow_set _ R _ _)) (grow_set _ R _ _)) (grow_set _ R _ _)
  refine bodyPost_ret (results_1 rfl (Gives.row (g := R) rfl HF Try.underlying29 rfl (by kernel_rfl))) rfl ?_
  refine ⟨(.slice E1 xs.length k1), (.slice E2 ys.length k2), (.slice E3 ss.length k3), rfl, ⟨?_, ?_, ?_, D4.out, by omega, by omega, by omega, HS.out.2.1⟩, ?_⟩
  · exact own_base (O7.out.kept HG (own_ne (fun j hj e => by cases e; have := L4.out _ hj; omega))) hwA
  · exact own_base (P7.out.kept HG (own_ne (fun j hj e => by cases e; have := M4.out _ hj; omega))) hwA
  · exact own4_base (Q7.out.kept HG (own_ne (fun j hj e => by cases e; have := T6.out _ hj; omega))) hwA
  · exact B7.out.grown HG hwR7 (fun j hj => by cases hj; omega)
end Go.Proofs.Ytdfnlaclggjckaa
