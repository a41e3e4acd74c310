/- The sizes of steps and automata, as the exact laws ask for them: what is no less than 0 bounds all lists. No condition. Copies of steps and automata, as the exact laws make them: the same fields in new memory. No condition but the sizes. A copy of an automaton, and two automata held against each other, as the exact laws do. No condition but the sizes. -/
import Derived.Test.YtlfffoglldobeaaStepB
import Derived.Test.YtlfffoglldobeaaMats
import Derived.WalkKit
import Derived.Deep.RegionHeld3
import Derived.Deep.QuietTactic
namespace Go.Proofs.Ytlfffoglldobeaa
open Go.RowKit
set_option maxHeartbeats 1000000
set_option maxRecDepth 100000
set_option linter.unusedVariables false

theorem four_cells {w : World} {g : Nat} {t : TypeId} {u0 u1 u2 u3 : Value} (h : Blk w g t #[u0, u1, u2, u3]) :
    w.cell? ⟨g, 0, none⟩ = some u0 ∧ w.cell? ⟨g, 1, none⟩ = some u1 ∧ w.cell? ⟨g, 2, none⟩ = some u2 ∧ w.cell? ⟨g, 3, none⟩ = some u3 := ⟨h.cell 0, h.cell 1, h.cell 2, h.cell 3⟩
theorem four_frozen {w : World} {g : Nat} {t : TypeId} {cs : Array Value} (h : Blk w g t cs) :
    w.frozen? ⟨g, 0, none⟩ = false ∧ w.frozen? ⟨g, 1, none⟩ = false ∧ w.frozen? ⟨g, 2, none⟩ = false ∧ w.frozen? ⟨g, 3, none⟩ = false := ⟨h.frozen 0, h.frozen 1, h.frozen 2, h.frozen 3⟩

def stepV (s : StepD) : Value := .agg #[.int .i64 s.fr, .string s.le, .int .i64 s.to_, .int .i64 s.co]

/-- A size that is left. -/
def SzEnd (n : Nat) (left : Int) (w : World) (e : Ending) (w' : World) : Prop :=
  ∃ v : Int, e = .returned (.int .i64 v) ∧ -1 ≤ v ∧ v ≤ left ∧ (0 ≤ v → (n : Int) ≤ left) ∧ Hid (Below w.heap.size w w')

theorem szIntS_any (A : Option Addr) (cap n : Nat) (left : Int) (w : World) (hl : n ≤ 9223372036854775807) (h0 : 0 ≤ left) (h1 : left ≤ 1048576) :
    Calls Try.prog 13 #[.slice A n cap, .int .i64 left] w fun e w' => SzEnd n left w e w' := by
  by_cases hn : (n : Int) ≤ left
  · have hb : ¬ left - (n : Int) < 0 := by omega
    go_enter Try.func13, Try.ntmps13
    go_wp2_with fail
    go_ret
    exact ⟨_, rfl, by omega, by omega, fun _ => hn, Below.refl _ _⟩
  · have hb : left - (n : Int) < 0 := by omega
    go_enter Try.func13, Try.ntmps13
    go_wp2_with fail
    go_ret
    exact ⟨_, rfl, by omega, by omega, fun h => absurd h (by omega), Below.refl _ _⟩

theorem szStep_any (s : StepD) (left : Int) (w : World) (hl : s.le.size ≤ 9223372036854775807) (h0 : 0 ≤ left) (h1 : left ≤ 1048576) :
    Calls Try.prog 29 #[stepV s, .int .i64 left] w fun e w' => SzEnd 0 left w e w' := by
  unfold stepV
  by_cases hn : (s.le.size : Int) ≤ left
  · have hb : ¬ left - (s.le.size : Int) < 0 := by omega
    go_enter Try.func29, Try.ntmps29
    go_wp2_with fail
    go_ret
    exact ⟨_, rfl, by omega, by omega, fun _ => by simpa using h0, below_a1 _ _⟩
  · have hb : left - (s.le.size : Int) < 0 := by omega
    go_enter Try.func29, Try.ntmps29
    go_wp2_with fail
    go_ret
    exact ⟨_, rfl, by omega, by omega, fun h => absurd h (by omega), below_a1 _ _⟩

theorem szStepS_any (A : Option Addr) (cap : Nat) (ss : List StepD) (left : Int) (w : World) (hs : SRow w w.heap.size A ss) (h0 : 0 ≤ left) (h1 : left ≤ 1048576) :
    Calls Try.prog 14 #[.slice A ss.length cap, .int .i64 left] w fun e w' => SzEnd ss.length left w e w' := by
  have hl := hs.1
  by_cases hn : (ss.length : Int) ≤ left
  · have hb : ¬ left - (ss.length : Int) < 0 := by omega
    have HS := Lib.hid hs
    clear hs
    go_enter Try.func14, Try.ntmps14
    go_wp2_with fail
    go_loopw [1, 5] (fun l i wr => ∃ (k : Nat) (v : Int), k ≤ ss.length ∧ i = .int .i64 k ∧ l = .int .i64 v ∧ 0 ≤ v ∧ v ≤ left ∧ Hid (Below w.heap.size w wr)) (fun _ i _ => ss.length - (intOf i).toNat)
    case atStart => exact ⟨0, _, Nat.zero_le _, rfl, rfl, by omega, by omega, Below.refl _ _⟩
    case round =>
      obtain ⟨k, v, hk, rfl, rfl, hv0, hv1, hbw⟩ := hrel
      by_cases hlt : k < ss.length
      · obtain ⟨b, off, s, rfl, hbB, hat, hsz, _, _⟩ := HS.out.at_ hlt
        obtain ⟨q0, q1, q2, q3⟩ := hat.below hbw.out hbB
        go_wp2_with fail
        refine (szStep_any s v _ hsz hv0 (by omega)).mono ?_
        rintro e w2 ⟨v2, rfl, g0, g1, _, hb2⟩
        have HB := Lib.hid (below_on hbw.out hb2.out)
        clear hat q0 q1 q2 q3
        by_cases hv2 : v2 < 0
        · go_wp2_with fail
          go_ret
          exact ⟨_, rfl, by omega, by omega, fun h => absurd h (by omega), HB.out⟩
        · go_wp2_with fail
          go_roundw
          case rel => exact ⟨k + 1, v2, by omega, by go_num, rfl, by omega, by omega, HB.out⟩
          case measure => simp [intOf]; omega
      · go_wp2_with fail
        go_ret
        exact ⟨_, rfl, by omega, by omega, fun _ => hn, hbw.out⟩
  · have hb : left - (ss.length : Int) < 0 := by omega
    go_enter Try.func14, Try.ntmps14
    go_wp2_with fail
    go_ret
    exact ⟨_, rfl, by omega, by omega, fun h => absurd h (by omega), Below.refl _ _⟩

theorem szAutomaton_any (m : Int) (A1 A2 A3 : Option Addr) (c1 c2 c3 : Nat) (xs ys : List Int) (ss : List StepD) (w : World) (hx : xs.length ≤ 9223372036854775807) (hy : ys.length ≤ 9223372036854775807) (hs : SRow w w.heap.size A3 ss) :
    Calls Try.prog 4 #[.agg #[.int .i64 m, .slice A1 xs.length c1, .slice A2 ys.length c2, .slice A3 ss.length c3], .int .i64 1048576] w fun e w' => ∃ v : Int, e = .returned (.int .i64 v) ∧ -1 ≤ v ∧ v ≤ 1048576 ∧ (0 ≤ v → xs.length ≤ 1048576 ∧ ys.length ≤ 1048576 ∧ ss.length ≤ 1048576) ∧ Hid (Below w.heap.size w w') := by
  have HS := Lib.hid (hs.al (.cells #[.int .i64 m, .slice A1 xs.length c1, .slice A2 ys.length c2, .slice A3 ss.length c3] 25))
  have B0 := Lib.hid (below_a1 w (.cells #[.int .i64 m, .slice A1 xs.length c1, .slice A2 ys.length c2, .slice A3 ss.length c3] 25))
  have K0 := Lib.hid (Blk.new w 25 #[.int .i64 m, .slice A1 xs.length c1, .slice A2 ys.length c2, .slice A3 ss.length c3])
  clear hs
  go_enter Try.func4, Try.ntmps4
  go_wp2_with fail
  refine (szIntS_any _ _ _ _ _ hx (by omega) (by omega)).mono ?_
  rintro e w1 ⟨v1, rfl, g0, g1, g2, hb1⟩
  have B1 := Lib.hid (below_on B0.out hb1.out)
  have K1 := Lib.hid (blk_b K0.out hb1.out)
  have S1 := Lib.hid (HS.out.on hb1.out)
  clear B0 K0 HS hb1
  by_cases hv1 : v1 < 0
  · go_wp2_with fail
    go_ret
    exact ⟨_, rfl, by omega, by omega, fun h => absurd h (by omega), B1.out⟩
  obtain ⟨q0, q1, q2, q3⟩ := four_cells K1.out
  go_wp2_with fail
  refine (szIntS_any _ _ _ _ _ hy (by omega) (by omega)).mono ?_
  rintro e w2 ⟨v2, rfl, j0, j1, j2, hb2⟩
  have B2 := Lib.hid (below_on B1.out hb2.out)
  have K2 := Lib.hid (blk_b K1.out hb2.out)
  have S2 := Lib.hid (S1.out.on hb2.out)
  clear B1 K1 S1 hb2 q0 q1 q2 q3
  by_cases hv2 : v2 < 0
  · go_wp2_with fail
    go_ret
    exact ⟨_, rfl, by omega, by omega, fun h => absurd h (by omega), B2.out⟩
  obtain ⟨q0, q1, q2, q3⟩ := four_cells K2.out
  go_wp2_with fail
  refine (szStepS_any _ _ _ _ _ S2.out (by omega) (by omega)).mono ?_
  rintro e w3 ⟨v3, rfl, l0, l1, l2, hb3⟩
  have B3 := Lib.hid (below_on B2.out hb3.out)
  by_cases hv3 : v3 < 0
  · go_wp2_with fail
    go_ret
    exact ⟨_, rfl, by omega, by omega, fun h => absurd h (by omega), B3.out⟩
  go_wp2_with fail
  go_ret
  exact ⟨_, rfl, by omega, by omega, fun _ => ⟨by have := g2 (by omega); omega, by have := j2 (by omega); omega, by have := l2 (by omega); omega⟩, B3.out⟩
end Go.Proofs.Ytlfffoglldobeaa
namespace Go.Proofs.Ytlfffoglldobeaa
open Go.RowKit
set_option maxHeartbeats 1000000
set_option maxRecDepth 100000
set_option linter.unusedVariables false

theorem toStep_any (s : StepD) (w : World) :
    Calls Try.prog 35 #[stepV s] w fun e w' => e = .returned (stepV s) ∧ Hid (Below w.heap.size w w') := by
  unfold stepV
  go_enter Try.func35, Try.ntmps35
  go_wp2_with fail
  refine bodyPost_ret (results_1 rfl (Gives.row (g := w.heap.size + 1) rfl ((blk_new (by simp)).alloc _) Try.underlying67 rfl (by kernel_rfl))) rfl ?_
  exact ⟨rfl, below_a3 _ _ _ _⟩

theorem steps_set {ss us : List StepD} {k : Nat} {s : StepD} (hl : us.length = ss.length) (ht : us.take k = ss.take k) (hk : k < ss.length) (hs : ss.getD k default = s) : (us.set k s).take (k + 1) = ss.take (k + 1) := by
  have e : ss[k] = s := by rw [List.getD_eq_getElem?_getD, List.getElem?_eq_getElem hk] at hs; exact hs
  have h1 : k < (us.set k s).length := by rw [List.length_set, hl]; exact hk
  rw [List.take_succ_eq_append_getElem h1, List.take_succ_eq_append_getElem hk, e, List.getElem_set_self, List.take_set, List.set_eq_of_length_le (by simp; omega), ht]

theorem toStepS_any (A : Option Addr) (cap : Nat) (ss : List StepD) (w : World) (hs : SRow w w.heap.size A ss) (hn : ss.length ≤ 1048576) :
    Calls Try.prog 20 #[.slice A ss.length cap] w fun e w' => ∃ g, e = .returned (.slice (some ⟨g, 0, none⟩) ss.length ss.length) ∧ w.heap.size ≤ g ∧ Hid (SBlk w' g 67 ss) ∧ Hid (Below w.heap.size w w') := by
  obtain ⟨n, hln⟩ : ∃ n, n = ss.length := ⟨_, rfl⟩
  have hmk := fun w => make_steps n (by omega) w
  have HS := Lib.hid hs
  have HN := Lib.hid hln
  rw [← hln]
  rw [← hln] at hn
  clear hs hln
  go_enter Try.func20, Try.ntmps20
  go_wp2_with fail
  go_loopw [4] (fun i wr => ∃ (k : Nat) (us : List StepD), k ≤ n ∧ i = .int .i64 k ∧ Hid (us.length = n) ∧ Hid (us.take k = ss.take k) ∧ Hid (SBlk wr w.heap.size 67 us) ∧ Hid (Below w.heap.size w wr)) (fun i _ => n - (intOf i).toNat)
  case atStart => exact ⟨0, List.replicate n default, Nat.zero_le _, rfl, Lib.hid (by simp), Lib.hid (by simp), Blk.new _ _ _, below_a1 _ _⟩
  case round =>
    obtain ⟨k, us, hk, rfl, hul, htk, hsb, hbw⟩ := hrel
    clear hmk
    by_cases hlt : k < n
    · obtain ⟨b, off, s, rfl, hbB, hat, hsz, _, hg⟩ := HS.out.at_ (k := k) (by rw [← HN.out]; exact hlt)
      have HG := Lib.hid hg
      clear hg
      obtain ⟨q0, q1, q2, q3⟩ := hat.below hbw.out hbB
      clear hat
      go_wp2_with fail
      refine (toStep_any s _).mono ?_
      rintro e w2 ⟨rfl, hb2⟩
      have S2 := Lib.hid (hsb.out.below hb2.out)
      have HB := Lib.hid (below_on hbw.out hb2.out)
      have hku : k < us.length := by rw [hul.out]; exact hlt
      have S3 := Lib.hid (S2.out.put k s hku)
      have HB3 := Lib.hid ((((HB.out.setCell (p := ⟨w.heap.size, k * 4, none⟩) (Nat.le_refl _) (.int .i64 s.fr)).setCell (p := ⟨w.heap.size, k * 4 + 1, none⟩) (Nat.le_refl _) (.string s.le)).setCell (p := ⟨w.heap.size, k * 4 + 2, none⟩) (Nat.le_refl _) (.int .i64 s.to_)).setCell (p := ⟨w.heap.size, k * 4 + 3, none⟩) (Nat.le_refl _) (.int .i64 s.co))
      have HT := Lib.hid (steps_set (hul.out.trans HN.out) htk.out (by rw [← HN.out]; exact hlt) HG.out)
      have HU : Hid ((us.set k s).length = n) := by show _ = _; rw [List.length_set, hul.out]
      clear q0 q1 q2 q3 hku
      obtain ⟨q0, q1, q2, q3⟩ := S2.out.at_ (k := k) (by rw [hul.out]; exact hlt)
      have z0 := S2.out.fz (k * 4)
      have z1 := S2.out.fz (k * 4 + 1)
      have z2 := S2.out.fz (k * 4 + 2)
      have z3 := S2.out.fz (k * 4 + 3)
      unfold stepV
      go_wp2_with fail
      go_roundw
      case rel => exact ⟨k + 1, us.set k s, by omega, by go_num, HU, HT, S3, HB3⟩
      case measure => simp [intOf]; omega
    · have e : us = ss := by
        have h := htk.out
        rwa [List.take_of_length_le (by rw [hul.out]; omega), List.take_of_length_le (by rw [← HN.out]; omega)] at h
      subst e
      go_wp2_with fail
      go_ret
      exact ⟨_, rfl, Nat.le_refl _, hsb, hbw⟩
end Go.Proofs.Ytlfffoglldobeaa
namespace Go.Proofs.Ytlfffoglldobeaa
open Go.RowKit
set_option maxHeartbeats 1000000
set_option maxRecDepth 100000
set_option linter.unusedVariables false

theorem sblk_other {w : World} {g : Nat} {t : TypeId} {ss : List StepD} (h : SBlk w g t ss) (k i : Nat) (v : Value) (hk : ¬ k = g) : SBlk (w.setCell ⟨k, i, none⟩ v) g t ss := Blk.other h k i v hk
theorem ints_on {w w' : World} {B : Nat} {A : Option Addr} {zs : List Int} (h : Ints w B A zs) (hB : B ≤ w.heap.size) (hb : Below w.heap.size w w') : Ints w' w'.heap.size A zs := (h.below (hb.mono hB)).more (Nat.le_trans hB hb.size)
theorem set_size (w : World) (a : Addr) (v : Value) : w.heap.size ≤ (w.setCell a v).heap.size := by simp [World.setCell]
/-- An automaton that a call has copied. -/
def CopA (m : Int) (xs ys : List Int) (ss : List StepD) (w : World) (e : Ending) (w' : World) : Prop :=
  ∃ g1 g2 g3, e = .returned (.agg #[.int .i64 m, .slice (some ⟨g1, 0, none⟩) xs.length xs.length, .slice (some ⟨g2, 0, none⟩) ys.length ys.length, .slice (some ⟨g3, 0, none⟩) ss.length ss.length]) ∧
    Hid (Ints w' w'.heap.size (some ⟨g1, 0, none⟩) xs) ∧ Hid (Ints w' w'.heap.size (some ⟨g2, 0, none⟩) ys) ∧ Hid (SBlk w' g3 67 ss) ∧ Hid (Below w.heap.size w w')
theorem toAutomaton_any (m : Int) (A1 A2 A3 : Option Addr) (c1 c2 c3 : Nat) (xs ys : List Int) (ss : List StepD) (w : World) (hx : Ints w w.heap.size A1 xs) (hy : Ints w w.heap.size A2 ys) (hs : SRow w w.heap.size A3 ss) (lx : xs.length ≤ 1048576) (ly : ys.length ≤ 1048576) (ls : ss.length ≤ 1048576) :
    Calls Try.prog 6 #[.agg #[.int .i64 m, .slice A1 xs.length c1, .slice A2 ys.length c2, .slice A3 ss.length c3]] w fun e w' => CopA m xs ys ss w e w' := by
  have HX := Lib.hid hx
  have HY := Lib.hid hy
  have HS := Lib.hid hs
  clear hx hy hs
  obtain ⟨R, hR⟩ : ∃ R, R = w.heap.size + 1 := ⟨_, rfl⟩
  obtain ⟨Q, hQ⟩ : ∃ Q, Q = w.heap.size + 1 + 1 := ⟨_, rfl⟩
  have HX0 := Lib.hid (ints_al (ints_al (ints_al HX.out (.cells #[.int .i64 m, .slice A1 xs.length c1, .slice A2 ys.length c2, .slice A3 ss.length c3] 25)) (.cells #[.int .i64 0, .slice none 0 0, .slice none 0 0, .slice none 0 0] 32)) (.cells #[.int .i64 m, .slice none 0 0, .slice none 0 0, .slice none 0 0] 32))
  have B0 := Lib.hid (below_a3 w (.cells #[.int .i64 m, .slice A1 xs.length c1, .slice A2 ys.length c2, .slice A3 ss.length c3] 25) (.cells #[.int .i64 0, .slice none 0 0, .slice none 0 0, .slice none 0 0] 32) (.cells #[.int .i64 m, .slice none 0 0, .slice none 0 0, .slice none 0 0] 32))
  have K0 := Lib.hid (((Blk.new w 25 #[.int .i64 m, .slice A1 xs.length c1, .slice A2 ys.length c2, .slice A3 ss.length c3]).alloc (.cells #[.int .i64 0, .slice none 0 0, .slice none 0 0, .slice none 0 0] 32)).alloc (.cells #[.int .i64 m, .slice none 0 0, .slice none 0 0, .slice none 0 0] 32))
  have R0 : Hid (Blk (((w.alloc (.cells #[.int .i64 m, .slice A1 xs.length c1, .slice A2 ys.length c2, .slice A3 ss.length c3] 25)).alloc (.cells #[.int .i64 0, .slice none 0 0, .slice none 0 0, .slice none 0 0] 32)).alloc (.cells #[.int .i64 m, .slice none 0 0, .slice none 0 0, .slice none 0 0] 32)) R 32 #[.int .i64 0, .slice none 0 0, .slice none 0 0, .slice none 0 0]) := (blk_new (by rw [hR]; simp)).alloc (.cells #[.int .i64 m, .slice none 0 0, .slice none 0 0, .slice none 0 0] 32)
  have Q0 : Hid (Blk (((w.alloc (.cells #[.int .i64 m, .slice A1 xs.length c1, .slice A2 ys.length c2, .slice A3 ss.length c3] 25)).alloc (.cells #[.int .i64 0, .slice none 0 0, .slice none 0 0, .slice none 0 0] 32)).alloc (.cells #[.int .i64 m, .slice none 0 0, .slice none 0 0, .slice none 0 0] 32)) Q 32 #[.int .i64 m, .slice none 0 0, .slice none 0 0, .slice none 0 0]) := blk_new (by rw [hQ]; simp)
  have hsz0 : (((w.alloc (.cells #[.int .i64 m, .slice A1 xs.length c1, .slice A2 ys.length c2, .slice A3 ss.length c3] 25)).alloc (.cells #[.int .i64 0, .slice none 0 0, .slice none 0 0, .slice none 0 0] 32)).alloc (.cells #[.int .i64 m, .slice none 0 0, .slice none 0 0, .slice none 0 0] 32)).heap.size = Q + 1 := by rw [hQ]; simp
  have HSZ := Lib.hid hsz0
  have HRQ := Lib.hid (show R + 1 = Q by omega)
  have HWR := Lib.hid (show w.heap.size + 1 = R by omega)
  have HQE := Lib.hid hQ
  have HRE := Lib.hid hR
  clear HX hsz0 hQ hR
  go_enter Try.func6, Try.ntmps6
  go_wp2_with fail
  have n1 : ¬ Q = R := by have := HRQ.out; omega
  have n2 : ¬ Q = w.heap.size := by have := HRQ.out; have := HWR.out; omega
  have n3 : ¬ R = w.heap.size := by have := HWR.out; omega
  have n4 : w.heap.size ≤ Q := by have := HRQ.out; have := HWR.out; omega
  have n5 : w.heap.size ≤ R := by have := HWR.out; omega
  refine (toIntS_any _ _ _ _ HX0.out (by omega)).mono ?_
  rintro e w1 ⟨g1, rfl, hb1, hg1, hi1⟩
  rw [← HQE.out, ← HRE.out]
  have B1 := Lib.hid (below_on B0.out hb1)
  have K1 := Lib.hid (blk_b K0.out hb1)
  have R1 := Lib.hid (blk_b R0.out hb1)
  have Q1 := Lib.hid (blk_b Q0.out hb1)
  have I1 := Lib.hid hi1
  have m1 : ¬ Q = g1 := by have := HSZ.out; omega
  have m1r : ¬ R = g1 := by have := HSZ.out; have := HRQ.out; omega
  clear HX0 B0 K0 R0 Q0 hb1 hi1 hg1
  have B2 := Lib.hid (B1.out.setCell (p := ⟨Q, 1, none⟩) n4 (.slice (some ⟨g1, 0, none⟩) xs.length xs.length))
  have K2 := Lib.hid (K1.out.other Q 1 (.slice (some ⟨g1, 0, none⟩) xs.length xs.length) n2)
  have R2 := Lib.hid (R1.out.other Q 1 (.slice (some ⟨g1, 0, none⟩) xs.length xs.length) n1)
  have Q2 : Hid (Blk (w1.setCell ⟨Q, 1, none⟩ (.slice (some ⟨g1, 0, none⟩) xs.length xs.length)) Q 32 #[.int .i64 m, .slice (some ⟨g1, 0, none⟩) xs.length xs.length, .slice none 0 0, .slice none 0 0]) := Q1.out.set_ 1 _
  have I2 := Lib.hid (ints_set I1.out Q 1 (.slice (some ⟨g1, 0, none⟩) xs.length xs.length) m1)
  obtain ⟨k0, k1, k2, k3⟩ := four_cells K1.out
  obtain ⟨q0, q1, q2, q3⟩ := four_cells Q1.out
  obtain ⟨f0, f1, f2, f3⟩ := four_frozen Q1.out
  go_wp2_with fail
  refine (toIntS_any _ _ _ _ ((HY.out.below B2.out).more B2.out.size) (by omega)).mono ?_
  rintro e w3 ⟨g2, rfl, hb3, hg2, hi3⟩
  have B3 := Lib.hid (below_on B2.out hb3)
  have K3 := Lib.hid (blk_b K2.out hb3)
  have R3 := Lib.hid (blk_b R2.out hb3)
  have Q3 := Lib.hid (blk_b Q2.out hb3)
  have I3 := Lib.hid (ints_on I2.out (set_size _ _ _) hb3)
  have J3 := Lib.hid hi3
  have m2 : ¬ Q = g2 := by have := Blk.lt Q2.out; omega
  have m2r : ¬ R = g2 := by have := Blk.lt R2.out; omega
  clear B1 K1 R1 Q1 I1 B2 K2 R2 Q2 I2 hb3 hi3 hg2 k0 k1 k2 k3 q0 q1 q2 q3 f0 f1 f2 f3
  have B4 := Lib.hid (B3.out.setCell (p := ⟨Q, 2, none⟩) n4 (.slice (some ⟨g2, 0, none⟩) ys.length ys.length))
  have K4 := Lib.hid (K3.out.other Q 2 (.slice (some ⟨g2, 0, none⟩) ys.length ys.length) n2)
  have R4 := Lib.hid (R3.out.other Q 2 (.slice (some ⟨g2, 0, none⟩) ys.length ys.length) n1)
  have Q4 : Hid (Blk (w3.setCell ⟨Q, 2, none⟩ (.slice (some ⟨g2, 0, none⟩) ys.length ys.length)) Q 32 #[.int .i64 m, .slice (some ⟨g1, 0, none⟩) xs.length xs.length, .slice (some ⟨g2, 0, none⟩) ys.length ys.length, .slice none 0 0]) := Q3.out.set_ 2 _
  have I4 := Lib.hid (ints_set I3.out Q 2 (.slice (some ⟨g2, 0, none⟩) ys.length ys.length) m1)
  have J4 := Lib.hid (ints_set J3.out Q 2 (.slice (some ⟨g2, 0, none⟩) ys.length ys.length) m2)
  obtain ⟨k0, k1, k2, k3⟩ := four_cells K3.out
  obtain ⟨q0, q1, q2, q3⟩ := four_cells Q3.out
  obtain ⟨f0, f1, f2, f3⟩ := four_frozen Q3.out
  go_wp2_with fail
  refine (toStepS_any _ _ _ _ (HS.out.on B4.out) ls).mono ?_
  rintro e w5 ⟨g3, rfl, hg3, T5, hb5⟩
  have B5 := Lib.hid (below_on B4.out hb5.out)
  have R5 := Lib.hid (blk_b R4.out hb5.out)
  have Q5 := Lib.hid (blk_b Q4.out hb5.out)
  have I5 := Lib.hid (ints_on I4.out (set_size _ _ _) hb5.out)
  have J5 := Lib.hid (ints_on J4.out (set_size _ _ _) hb5.out)
  have m3 : ¬ Q = g3 := by have := Blk.lt Q4.out; omega
  have m3r : ¬ R = g3 := by have := Blk.lt R4.out; omega
  clear B3 K3 R3 Q3 I3 J3 B4 K4 R4 Q4 I4 J4 hb5 hg3 k0 k1 k2 k3 q0 q1 q2 q3 f0 f1 f2 f3
  have R6 := Lib.hid (R5.out.other Q 3 (.slice (some ⟨g3, 0, none⟩) ss.length ss.length) n1)
  obtain ⟨q0, q1, q2, q3⟩ := four_cells Q5.out
  obtain ⟨f0, f1, f2, f3⟩ := four_frozen Q5.out
  obtain ⟨r0, r1, r2, r3⟩ := four_cells R5.out
  obtain ⟨e0, e1, e2, e3⟩ := four_frozen R5.out
  go_wp2_with fail
  have HF := (((R6.out.set_ 0 (.int .i64 m)).set_ 1 (.slice (some ⟨g1, 0, none⟩) xs.length xs.length)).set_ 2 (.slice (some ⟨g2, 0, none⟩) ys.length ys.length)).set_ 3 (.slice (some ⟨g3, 0, none⟩) ss.length ss.length)
  have hsz : w5.heap.size ≤ ((World.setCell (World.setCell (World.setCell (World.setCell (World.setCell w5 ⟨Q, 3, none⟩ (.slice (some ⟨g3, 0, none⟩) ss.length ss.length)) ⟨R, 0, none⟩ (.int .i64 m)) ⟨R, 1, none⟩ (.slice (some ⟨g1, 0, none⟩) xs.length xs.length)) ⟨R, 2, none⟩ (.slice (some ⟨g2, 0, none⟩) ys.length ys.length)) ⟨R, 3, none⟩ (.slice (some ⟨g3, 0, none⟩) ss.length ss.length))).heap.size := by simp [World.setCell]
  have HI := Lib.hid ((ints_set (ints_set (ints_set (ints_set (ints_set I5.out Q 3 (.slice (some ⟨g3, 0, none⟩) ss.length ss.length) m1) R 0 (.int .i64 m) m1r) R 1 (.slice (some ⟨g1, 0, none⟩) xs.length xs.length) m1r) R 2 (.slice (some ⟨g2, 0, none⟩) ys.length ys.length) m1r) R 3 (.slice (some ⟨g3, 0, none⟩) ss.length ss.length) m1r).more hsz)
  have HJ := Lib.hid ((ints_set (ints_set (ints_set (ints_set (ints_set J5.out Q 3 (.slice (some ⟨g3, 0, none⟩) ss.length ss.length) m2) R 0 (.int .i64 m) m2r) R 1 (.slice (some ⟨g1, 0, none⟩) xs.length xs.length) m2r) R 2 (.slice (some ⟨g2, 0, none⟩) ys.length ys.length) m2r) R 3 (.slice (some ⟨g3, 0, none⟩) ss.length ss.length) m2r).more hsz)
  have HT := Lib.hid (sblk_other (sblk_other (sblk_other (sblk_other (sblk_other T5.out Q 3 (.slice (some ⟨g3, 0, none⟩) ss.length ss.length) m3) R 0 (.int .i64 m) m3r) R 1 (.slice (some ⟨g1, 0, none⟩) xs.length xs.length) m3r) R 2 (.slice (some ⟨g2, 0, none⟩) ys.length ys.length) m3r) R 3 (.slice (some ⟨g3, 0, none⟩) ss.length ss.length) m3r)
  have HBB := Lib.hid (Below.setCell (p := ⟨R, 3, none⟩) (Below.setCell (p := ⟨R, 2, none⟩) (Below.setCell (p := ⟨R, 1, none⟩) (Below.setCell (p := ⟨R, 0, none⟩) (Below.setCell (p := ⟨Q, 3, none⟩) B5.out n4 (.slice (some ⟨g3, 0, none⟩) ss.length ss.length)) n5 (.int .i64 m)) n5 (.slice (some ⟨g1, 0, none⟩) xs.length xs.length)) n5 (.slice (some ⟨g2, 0, none⟩) ys.length ys.length)) n5 (.slice (some ⟨g3, 0, none⟩) ss.length ss.length))
  clear hsz q0 q1 q2 q3 f0 f1 f2 f3 r0 r1 r2 r3 e0 e1 e2 e3
  refine bodyPost_ret (results_1 rfl (Gives.row (g := R) rfl HF Try.underlying32 rfl (by kernel_rfl))) rfl ?_
  exact ⟨g1, g2, g3, rfl, HI, HJ, HT, HBB⟩
end Go.Proofs.Ytlfffoglldobeaa
