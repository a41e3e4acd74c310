/- Two automata with the same fields held against each other, as the exact laws do: they are the same. No condition. Comparing numbers, strings and steps, the program's and the model's. Condition: the letters are a or b where two steps are held against each other. -/
import Derived.Test.YtlfffoglldobeaaToB
import Derived.Deep.RegionWith
import Derived.Lib.Bytealg
import Derived.Shelf.Small.Strs
namespace Go.Proofs.Ytlfffoglldobeaa
open Go.RowKit
set_option maxHeartbeats 1000000
set_option maxRecDepth 100000
set_option linter.unusedVariables false

theorem below_dN {B : Nat} {a w : World} (h : Below B a w) (m : Nat) : Below B a (w.drewN m) := ⟨h.os, h.tape, h.output, h.size, h.block⟩
theorem eqStep_eq (s : StepD) (w : World) :
    Calls Try.prog 42 #[stepV s, stepV s] w fun e w' => e = .returned (.bool true) ∧ Hid (Below w.heap.size w w') := by
  unfold stepV
  go_enter Try.func42, Try.ntmps42
  go_wp2_with fail
  go_ret
  exact ⟨rfl, below_a2 _ _ _⟩
theorem eqStepS_eq (A A' : Option Addr) (cap cap' : Nat) (ss : List StepD) (w : World) (hs : SRow w w.heap.size A ss) (hy : SRow w w.heap.size A' ss) :
    Calls Try.prog 25 #[.slice A ss.length cap, .slice A' ss.length cap'] w fun e w' => e = .returned (.bool true) ∧ Hid (Below w.heap.size w w') := by
  have hl := hs.1
  have HS := Lib.hid hs
  have HY := Lib.hid hy
  clear hs hy
  go_enter Try.func25, Try.ntmps25
  go_wp2_with fail
  go_loopw [5] (fun i wr => ∃ (k : Nat), k ≤ ss.length ∧ i = .int .i64 k ∧ Hid (Below w.heap.size w wr)) (fun i _ => ss.length - (intOf i).toNat)
  case atStart => exact ⟨0, Nat.zero_le _, rfl, Below.refl _ _⟩
  case round =>
    obtain ⟨k, hk, rfl, hbw⟩ := hrel
    by_cases hlt : k < ss.length
    · obtain ⟨b, off, s, rfl, hbB, hat, hsz, _, hg⟩ := HS.out.at_ hlt
      obtain ⟨b', off', s', rfl, hbB', hat', hsz', _, hg'⟩ := HY.out.at_ hlt
      have e : s' = s := hg'.symm.trans hg
      subst e
      obtain ⟨q0, q1, q2, q3⟩ := hat.below hbw.out hbB
      obtain ⟨p0, p1, p2, p3⟩ := hat'.below hbw.out hbB'
      clear hat hat' hg hg'
      have hi0 : (0 : Int) ≤ (k : Int) := by omega
      have hi1 : (k : Int) < (ss.length : Int) := by omega
      go_wp2_with fail
      go_region_with (go_at_call 42; refine (eqStep_eq s' _).mono ?_; rintro e w6 ⟨rfl, hb6⟩)
      all_goals
        have HB : Hid (Below w.heap.size w w6) := by first | exact below_on hbw.out hb6.out | exact below_on hbw.out.drew hb6.out
        go_wp2_with fail
        go_roundw
        case rel => exact ⟨k + 1, by omega, by go_num, HB.out⟩
        case measure => simp [intOf]; omega
    · go_wp2_with fail
      go_ret
      exact ⟨rfl, hbw.out⟩
theorem eqAutomaton_eq (m : Int) (A1 A2 A3 A1' A2' A3' : Option Addr) (c1 c2 c3 c1' c2' c3' : Nat) (xs ys : List Int) (ss : List StepD) (w : World) (hx : Ints w w.heap.size A1 xs) (hy : Ints w w.heap.size A2 ys) (hs : SRow w w.heap.size A3 ss) (hx' : Ints w w.heap.size A1' xs) (hy' : Ints w w.heap.size A2' ys) (hs' : SRow w w.heap.size A3' ss) :
    Calls Try.prog 9 #[.agg #[.int .i64 m, .slice A1 xs.length c1, .slice A2 ys.length c2, .slice A3 ss.length c3], .agg #[.int .i64 m, .slice A1' xs.length c1', .slice A2' ys.length c2', .slice A3' ss.length c3']] w fun e w' => e = .returned (.bool true) ∧ Hid (Below w.heap.size w w') := by
  have HX := Lib.hid hx
  have HY := Lib.hid hy
  have HS := Lib.hid hs
  have HX' := Lib.hid hx'
  have HY' := Lib.hid hy'
  have HS' := Lib.hid hs'
  clear hx hy hs hx' hy' hs'
  go_enter Try.func9, Try.ntmps9
  go_wp2_with fail
  refine (eqIntS_any _ _ _ _ _ _ xs xs _ (ints_al (ints_al HX.out _) _) (ints_al (ints_al HX'.out _) _)).mono ?_
  rintro e w1 ⟨rfl, k1, rfl⟩
  have hd : decide (xs = xs) = true := decide_eq_true rfl
  rw [hd]
  go_wp2_with fail
  have B1 := Lib.hid (below_dN (below_a2 w (.cells #[.int .i64 m, .slice A1 xs.length c1, .slice A2 ys.length c2, .slice A3 ss.length c3] 32) (.cells #[.int .i64 m, .slice A1' xs.length c1', .slice A2' ys.length c2', .slice A3' ss.length c3'] 32)) k1)
  refine (eqIntS_any _ _ _ _ _ _ ys ys _ ((HY.out.below B1.out).more B1.out.size) ((HY'.out.below B1.out).more B1.out.size)).mono ?_
  rintro e w1 ⟨rfl, k2, rfl⟩
  have B2 := Lib.hid (below_dN (below_a2 w (.cells #[.int .i64 m, .slice A1 xs.length c1, .slice A2 ys.length c2, .slice A3 ss.length c3] 32) (.cells #[.int .i64 m, .slice A1' xs.length c1', .slice A2' ys.length c2', .slice A3' ss.length c3'] 32)) (k1 + k2))
  have hd2 : decide (ys = ys) = true := decide_eq_true rfl
  rw [hd2]
  go_wp2_with fail
  refine (eqStepS_eq _ _ _ _ _ _ (HS.out.on B2.out) (HS'.out.on B2.out)).mono ?_
  rintro e w3 ⟨rfl, hb3⟩
  have B3 := Lib.hid (below_on B2.out hb3.out)
  go_wp2_with fail
  go_ret
  exact ⟨rfl, B3.out⟩
end Go.Proofs.Ytlfffoglldobeaa
namespace Go.Proofs.Ytlfffoglldobeaa
open Go.RowKit
set_option maxHeartbeats 1000000
set_option maxRecDepth 100000
set_option linter.unusedVariables false

theorem cmpStr_any (a b : ByteArray) (w : World) :
    Calls Try.prog 66 #[.string a, .string b] w fun e w' => e = .returned (.int .i64 (Lib.compareBytes a.data.toList b.data.toList)) ∧ w = w' := by
  go_enter Try.func66, Try.ntmps66
  go_wp2
  rw [run_callFunc_extern Try.func67 (by kernel_rfl) (by kernel_rfl) (by kernel_rfl) (e := Extern.BytealgCompare.compare) (by kernel_rfl), Lib.run_compareString]
  simp only [Result.andThen]
  rw [Oper.upon_value]
  go_wp2
  go_ret
  exact ⟨rfl, rfl⟩
theorem compare_any (a b : ByteArray) (w : World) :
    Calls Try.prog 63 #[.string a, .string b] w fun e w' => e = .returned (.int .i64 (Lib.compareBytes a.data.toList b.data.toList)) ∧ w = w' := by
  go_enter Try.func63, Try.ntmps63
  go_wp2_with fail
  refine (cmpStr_any a b _).mono ?_
  rintro e w' ⟨rfl, rfl⟩
  go_wp2_with fail
  go_ret
  exact ⟨rfl, rfl⟩
def cmpI (x y : Int) : Int := if x < y then -1 else if y < x then 1 else 0
theorem nan_any (x : Int) (w : World) : Calls Try.prog 65 #[.int .i64 x] w fun e w' => e = .returned (.bool false) ∧ w = w' := by
  go_enter Try.func65, Try.ntmps65
  go_wp2_with fail
  go_ret
  exact ⟨rfl, rfl⟩
theorem cmpI_any (x y : Int) (w : World) : Calls Try.prog 62 #[.int .i64 x, .int .i64 y] w fun e w' => e = .returned (.int .i64 (cmpI x y)) ∧ w = w' := by
  have hc : (x < y ∧ cmpI x y = -1) ∨ (¬ x < y ∧ y < x ∧ cmpI x y = 1) ∨ (¬ x < y ∧ ¬ y < x ∧ cmpI x y = 0) := by
    unfold cmpI
    by_cases h1 : x < y
    · exact Or.inl ⟨h1, by rw [if_pos h1]⟩
    · by_cases h2 : y < x
      · exact Or.inr (Or.inl ⟨h1, h2, by rw [if_neg h1, if_pos h2]⟩)
      · exact Or.inr (Or.inr ⟨h1, h2, by rw [if_neg h1, if_neg h2]⟩)
  rcases hc with ⟨h1, he⟩ | ⟨h1, h2, he⟩ | ⟨h1, h2, he⟩
  all_goals
    rw [he]
    clear he
    go_enter Try.func62, Try.ntmps62
    go_wp2_with fail
    refine (nan_any x _).mono ?_
    rintro e w' ⟨rfl, rfl⟩
    go_wp2_with fail
    refine (nan_any y _).mono ?_
    rintro e w' ⟨rfl, rfl⟩
    go_wp2_with fail
    go_ret
    exact ⟨rfl, rfl⟩
def orF : List Int → Int
  | [] => 0
  | z :: zs => if z = 0 then orF zs else z
theorem or_any (A : Option Addr) (cap B : Nat) (zs : List Int) (w : World) (hz : Ints w B A zs) :
    Calls Try.prog 61 #[.slice A zs.length cap] w fun e w' => e = .returned (.int .i64 (orF zs)) ∧ w = w' := by
  have hl := hz.len
  go_enter Try.func61, Try.ntmps61
  go_wp2_with fail
  go_loop [8] (fun i => ∃ k : Nat, k ≤ zs.length ∧ i = .int .i64 k ∧ Hid (orF zs = orF (zs.drop k))) (fun i => zs.length - (intOf i).toNat)
  case atStart => exact ⟨0, Nat.zero_le _, rfl, rfl⟩
  case round =>
    obtain ⟨k, hk, rfl, hr⟩ := hrel
    by_cases hlt : k < zs.length
    · obtain ⟨b, off, z, rfl, _, hc, hd, _⟩ := hz.at_ hlt
      have HD := Lib.hid hd
      clear hd
      by_cases h0 : z = 0
      · have hb : (z != 0) = false := by simpa using h0
        have HR : Hid (orF zs = orF (zs.drop (k + 1))) := by show _ = _; rw [hr.out, HD.out, orF, if_pos h0]
        clear h0
        go_wp2_with fail
        go_round
        case rel => exact ⟨k + 1, by omega, by go_num, HR⟩
        case measure => simp [intOf]; omega
      · have hb : (z != 0) = true := by simpa using h0
        have HR : Hid (orF zs = z) := by show _ = _; rw [hr.out, HD.out, orF, if_neg h0]
        clear h0
        go_wp2_with fail
        go_ret
        exact ⟨ret_int HR.out.symm, rfl⟩
    · have HR : Hid (orF zs = 0) := by show _ = _; rw [hr.out, List.drop_of_length_le (by omega)]; rfl
      go_wp2_with fail
      go_ret
      exact ⟨ret_int HR.out.symm, rfl⟩
end Go.Proofs.Ytlfffoglldobeaa
