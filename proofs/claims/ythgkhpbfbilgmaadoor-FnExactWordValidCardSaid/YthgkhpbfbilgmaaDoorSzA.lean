/- The sizes of steps and automata, as the exact laws ask for them: what is no less than 0 bounds all lists. No condition. -/
import Derived.Test.YthgkhpbfbilgmaaDoorStepB
import Derived.Test.YthgkhpbfbilgmaaDoorMats
import Derived.WalkKit
namespace Go.Proofs.YthgkhpbfbilgmaaDoor
open Go.RowKit
set_option maxHeartbeats 1000000
set_option maxRecDepth 100000
set_option linter.unusedVariables false

theorem four_cells {w : World} {g : Nat} {t : TypeId} {u0 u1 u2 u3 : Value} (h : Blk w g t #[u0, u1, u2, u3]) :
    w.cell? ⟨g, 0, none⟩ = some u0 ∧ w.cell? ⟨g, 1, none⟩ = some u1 ∧ w.cell? ⟨g, 2, none⟩ = some u2 ∧ w.cell? ⟨g, 3, none⟩ = some u3 := ⟨h.cell 0, h.cell 1, h.cell 2, h.cell 3⟩
theorem four_frozen {w : World} {g : Nat} {t : TypeId} {cs : Array Value} (h : Blk w g t cs) :
    w.frozen? ⟨g, 0, none⟩ = false ∧ w.frozen? ⟨g, 1, none⟩ = false ∧ w.frozen? ⟨g, 2, none⟩ = false ∧ w.frozen? ⟨g, 3, none⟩ = false := ⟨h.frozen 0, h.frozen 1, h.frozen 2, h.frozen 3⟩

def stepV (s : StepD) : Value := .agg #[.int .i64 s.fr, .string s.le, .int .i64 s.to_, .int .i64 s.co]

/-- A size that is left. -/
def SzEnd (n : Nat) (left : Int) (w : World) (e : Ending) (w' : World) : Prop :=
  ∃ v : Int, e = .returned (.int .i64 v) ∧ -1 ≤ v ∧ v ≤ left ∧ (0 ≤ v → (n : Int) ≤ left) ∧ Hid (Below w.heap.size w w')

theorem szIntS_any (A : Option Addr) (cap n : Nat) (left : Int) (w : World) (hl : n ≤ 9223372036854775807) (h0 : 0 ≤ left) (h1 : left ≤ 1048576) :
    Calls Tryd.prog 33 #[.slice A n cap, .int .i64 left] w fun e w' => SzEnd n left w e w' := by
  by_cases hn : (n : Int) ≤ left
  · have hb : ¬ left - (n : Int) < 0 := by omega
    go_enter Tryd.func33, Tryd.ntmps33
    go_wp2_with fail
    go_ret
    exact ⟨_, rfl, by omega, by omega, fun _ => hn, Below.refl _ _⟩
  · have hb : left - (n : Int) < 0 := by omega
    go_enter Tryd.func33, Tryd.ntmps33
    go_wp2_with fail
    go_ret
    exact ⟨_, rfl, by omega, by omega, fun h => absurd h (by omega), Below.refl _ _⟩

theorem szStep_any (s : StepD) (left : Int) (w : World) (hl : s.le.size ≤ 9223372036854775807) (h0 : 0 ≤ left) (h1 : left ≤ 1048576) :
    Calls Tryd.prog 58 #[stepV s, .int .i64 left] w fun e w' => SzEnd 0 left w e w' := by
  unfold stepV
  by_cases hn : (s.le.size : Int) ≤ left
  · have hb : ¬ left - (s.le.size : Int) < 0 := by omega
    go_enter Tryd.func58, Tryd.ntmps58
    go_wp2_with fail
    go_ret
    exact ⟨_, rfl, by omega, by omega, fun _ => by simpa using h0, below_a1 _ _⟩
  · have hb : left - (s.le.size : Int) < 0 := by omega
    go_enter Tryd.func58, Tryd.ntmps58
    go_wp2_with fail
    go_ret
    exact ⟨_, rfl, by omega, by omega, fun h => absurd h (by omega), below_a1 _ _⟩

theorem szStepS_any (A : Option Addr) (cap : Nat) (ss : List StepD) (left : Int) (w : World) (hs : SRow w w.heap.size A ss) (h0 : 0 ≤ left) (h1 : left ≤ 1048576) :
    Calls Tryd.prog 34 #[.slice A ss.length cap, .int .i64 left] w fun e w' => SzEnd ss.length left w e w' := by
  have hl := hs.1
  by_cases hn : (ss.length : Int) ≤ left
  · have hb : ¬ left - (ss.length : Int) < 0 := by omega
    have HS := Lib.hid hs
    clear hs
    go_enter Tryd.func34, Tryd.ntmps34
    go_wp2_with fail
    go_loopw [1, 5] (fun l i wr => ∃ (k : Nat) (v : Int), k ≤ ss.length ∧ i = .int .i64 k ∧ l = .int .i64 v ∧ 0 ≤ v ∧ v ≤ left ∧ Hid (Below w.heap.size w wr)) (fun _ i _ => ss.length - (intOf i).toNat)
    case atStart => exact ⟨0, _, Nat.zero_le _, rfl, rfl, by omega, by omega, Below.refl _ _⟩
    case round =>
      obtain ⟨k, v, hk, rfl, rfl, hv0, hv1, hbw⟩ := hrel
      by_cases hlt : k < ss.length
      · obtain ⟨b, off, s, rfl, hbB, hat, hsz, _, _⟩ := HS.out.at_ hlt
        obtain ⟨q0, q1, q2, q3⟩ := hat.below hbw.out hbB
        go_wp2_with fail
        refine (szStep_any s v _ hsz hv0 (by omega)).mono ?_
        rintro e w2 ⟨v2, rfl, g0, g1, _, hb2⟩
        have HB := Lib.hid (below_on hbw.out hb2.out)
        clear hat q0 q1 q2 q3
        by_cases hv2 : v2 < 0
        · go_wp2_with fail
          go_ret
          exact ⟨_, rfl, by omega, by omega, fun h => absurd h (by omega), HB.out⟩
        · go_wp2_with fail
          go_roundw
          case rel => exact ⟨k + 1, v2, by omega, by go_num, rfl, by omega, by omega, HB.out⟩
          case measure => simp [intOf]; omega
      · go_wp2_with fail
        go_ret
        exact ⟨_, rfl, by omega, by omega, fun _ => hn, hbw.out⟩
  · have hb : left - (ss.length : Int) < 0 := by omega
    go_enter Tryd.func34, Tryd.ntmps34
    go_wp2_with fail
    go_ret
    exact ⟨_, rfl, by omega, by omega, fun h => absurd h (by omega), Below.refl _ _⟩

theorem szAutomaton_any (m : Int) (A1 A2 A3 : Option Addr) (c1 c2 c3 : Nat) (xs ys : List Int) (ss : List StepD) (w : World) (hx : xs.length ≤ 9223372036854775807) (hy : ys.length ≤ 9223372036854775807) (hs : SRow w w.heap.size A3 ss) :
    Calls Tryd.prog 11 #[.agg #[.int .i64 m, .slice A1 xs.length c1, .slice A2 ys.length c2, .slice A3 ss.length c3], .int .i64 1048576] w fun e w' => ∃ v : Int, e = .returned (.int .i64 v) ∧ -1 ≤ v ∧ v ≤ 1048576 ∧ (0 ≤ v → xs.length ≤ 1048576 ∧ ys.length ≤ 1048576 ∧ ss.length ≤ 1048576) ∧ Hid (Below w.heap.size w w') := by
  have HS := Lib.hid (hs.al (.cells #[.int .i64 m, .slice A1 xs.length c1, .slice A2 ys.length c2, .slice A3 ss.length c3] 26))
  have B0 := Lib.hid (below_a1 w (.cells #[.int .i64 m, .slice A1 xs.length c1, .slice A2 ys.length c2, .slice A3 ss.length c3] 26))
  have K0 := Lib.hid (Blk.new w 26 #[.int .i64 m, .slice A1 xs.length c1, .slice A2 ys.length c2, .slice A3 ss.length c3])
  clear hs
  go_enter Tryd.func11, Tryd.ntmps11
  go_wp2_with fail
  refine (szIntS_any _ _ _ _ _ hx (by omega) (by omega)).mono ?_
  rintro e w1 ⟨v1, rfl, g0, g1, g2, hb1⟩
  have B1 := Lib.hid (below_on B0.out hb1.out)
  have K1 := Lib.hid (blk_b K0.out hb1.out)
  have S1 := Lib.hid (HS.out.on hb1.out)
  clear B0 K0 HS hb1
  by_cases hv1 : v1 < 0
  · go_wp2_with fail
    go_ret
    exact ⟨_, rfl, by omega, by omega, fun h => absurd h (by omega), B1.out⟩
  obtain ⟨q0, q1, q2, q3⟩ := four_cells K1.out
  go_wp2_with fail
  refine (szIntS_any _ _ _ _ _ hy (by omega) (by omega)).mono ?_
  rintro e w2 ⟨v2, rfl, j0, j1, j2, hb2⟩
  have B2 := Lib.hid (below_on B1.out hb2.out)
  have K2 := Lib.hid (blk_b K1.out hb2.out)
  have S2 := Lib.hid (S1.out.on hb2.out)
  clear B1 K1 S1 hb2 q0 q1 q2 q3
  by_cases hv2 : v2 < 0
  · go_wp2_with fail
    go_ret
    exact ⟨_, rfl, by omega, by omega, fun h => absurd h (by omega), B2.out⟩
  obtain ⟨q0, q1, q2, q3⟩ := four_cells K2.out
  go_wp2_with fail
  refine (szStepS_any _ _ _ _ _ S2.out (by omega) (by omega)).mono ?_
  rintro e w3 ⟨v3, rfl, l0, l1, l2, hb3⟩
  have B3 := Lib.hid (below_on B2.out hb3.out)
  by_cases hv3 : v3 < 0
  · go_wp2_with fail
    go_ret
    exact ⟨_, rfl, by omega, by omega, fun h => absurd h (by omega), B3.out⟩
  go_wp2_with fail
  go_ret
  exact ⟨_, rfl, by omega, by omega, fun _ => ⟨by have := g2 (by omega); omega, by have := j2 (by omega); omega, by have := l2 (by omega); omega⟩, B3.out⟩
end Go.Proofs.YthgkhpbfbilgmaaDoor
