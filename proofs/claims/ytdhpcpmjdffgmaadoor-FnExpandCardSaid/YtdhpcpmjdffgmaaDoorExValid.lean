/- Whether a text is an expression, and the expression that repeats one, the program's and the model's, and what the laws say of both; nothing that was there changes. No condition. -/
import Derived.Test.YtdhpcpmjdffgmaaDoorNodeOf
import Derived.Test.YtdhpcpmjdffgmaaDoorNextP
namespace Go.Proofs.YtdhpcpmjdffgmaaDoor
open Go.RowKit
set_option maxHeartbeats 2000000
set_option maxRecDepth 100000
set_option linter.unusedVariables false

def validB (l : List UInt8) : Bool := (parseT l).isSome
theorem valid_node (l : List UInt8) : validB l = (nodeF l).isSome := (node_isSome l).symm
theorem valid_len {l : List UInt8} (h : validB l = true) : l.length ≤ 120 := by
  unfold validB at h
  cases hp : parseT l with
  | none => rw [hp] at h; cases h
  | some t => exact (parse_spec hp).2.2.2
theorem text_pos {t : Tx} (h : t.any = true) : 0 < t.text.length := by
  cases t with
  | nil => cases h
  | lit b r => simp [Tx.text]
  | rep i r => simp [Tx.text]
/-- The model's test. -/
theorem valid_end (s : ByteArray) (h : s.size ≤ 120) : validB s.data.toList = ((endI s 0 == (s.size : Int)) && decide (0 < s.size)) := by
  have hl : s.data.toList.length = s.size := (size_len s).symm
  unfold validB parseT endI contF
  rw [if_pos (by rw [hl]; exact h), List.drop_zero]
  cases hp : P s.data.toList with
  | none =>
    simp only [Option.isSome_none]
    have : ((-1 : Int) == (s.size : Int)) = false := by rw [beq_eq_false_iff_ne]; omega
    rw [this]; rfl
  | some p =>
    obtain ⟨t, r⟩ := p
    obtain ⟨e1, _, _, e4⟩ := P_spec hp
    have e5 := congrArg List.length e1
    rw [List.length_append, hl] at e5
    cases ht : t.any with
    | false =>
      have hm : ((-1 : Int) == (s.size : Int)) = false := by rw [beq_eq_false_iff_ne]; omega
      cases r with
      | nil => simp [ht, hm]
      | cons d r => simp [ht, hm]
    | true =>
      have hpos := text_pos ht
      have h0 : decide (0 < s.size) = true := decide_eq_true (by omega)
      rw [h0]
      cases r with
      | nil =>
        simp only [ht, Bool.false_or, if_true, Bool.and_true, Option.isSome_some, List.length_nil]
        have : (((s.size : Int) - ((0 : Nat) : Int)) == (s.size : Int)) = true := by rw [beq_iff_eq]; omega
        rw [this]
      | cons d r =>
        simp only [ht, Bool.false_or, if_true, Bool.and_true, Option.isSome_none]
        have : (((s.size : Int) - ((d :: r).length : Nat)) == (s.size : Int)) = false := by rw [beq_eq_false_iff_ne]; simp only [List.length_cons]; omega
        rw [this]
theorem valid_long (s : ByteArray) (h : ¬ s.size ≤ 120) : validB s.data.toList = false := by
  cases hv : validB s.data.toList with
  | false => rfl
  | true => exact absurd (by rw [size_len]; exact valid_len hv) h
theorem sValid_is (s : ByteArray) (b : Bool) (w : World) (hs : s.size ≤ 1048576) (hb : validB s.data.toList = b) :
    Calls Tryd.prog 8 #[.string s] w fun e w' => e = .returned (.bool b) ∧ w' = w := by
  by_cases h : s.size ≤ 120
  · have h' : (s.size : Int) ≤ 120 := by omega
    have he := (valid_end s h).symm.trans hb
    have hc := end_any s 0 w hs (Nat.zero_le _)
    have e0 : ((0 : Nat) : Int) = 0 := rfl
    rw [e0] at hc
    obtain ⟨j, hj⟩ : ∃ j, endI s 0 = j := ⟨_, rfl⟩
    rw [hj] at he hc
    have HC := Lib.hid hc
    clear hc hj hb hs
    cases hq : (j == (s.size : Int)) with
    | false =>
      rw [hq, Bool.false_and] at he
      subst he
      go_enter Tryd.func8, Tryd.ntmps8
      go_wp2_with fail
      refine HC.out.mono ?_
      rintro e w' ⟨rfl, rfl⟩
      go_wp2_with fail
      go_ret
      exact ⟨rfl, rfl⟩
    | true =>
      rw [hq, Bool.true_and] at he
      subst he
      go_enter Tryd.func8, Tryd.ntmps8
      go_wp2_with fail
      refine HC.out.mono ?_
      rintro e w' ⟨rfl, rfl⟩
      go_wp2_with fail
      go_ret
      exact ⟨rfl, rfl⟩
  · have h' : ¬ (s.size : Int) ≤ 120 := by omega
    have he := (valid_long s h).symm.trans hb
    subst he
    go_enter Tryd.func8, Tryd.ntmps8
    go_wp2_with fail
    go_ret
    exact ⟨rfl, rfl⟩
theorem iValid_is (s : ByteArray) (b : Bool) (w : World) (hb : validB s.data.toList = b) :
    Calls Tryd.prog 7 #[.string s] w fun e w' => e = .returned (.bool b) ∧ Below w.heap.size w w' := by
  rw [valid_node] at hb
  cases hn : nodeF s.data.toList with
  | none =>
    rw [hn] at hb
    subst hb
    have HN := Lib.hid hn
    clear hn
    go_enter Tryd.func7, Tryd.ntmps7
    go_wp2_with fail
    refine (nodeOf_no s _ HN.out).mono ?_
    rintro e w' ⟨rfl, hb'⟩
    go_wp2_with fail
    go_ret
    exact ⟨rfl, hb'⟩
  | some x =>
    rw [hn] at hb
    subst hb
    have HN := Lib.hid hn
    clear hn
    go_enter Tryd.func7, Tryd.ntmps7
    go_wp2_with fail
    refine (nodeOf_yes s _ x HN.out).mono ?_
    rintro e w' ⟨rfl, hb'⟩
    go_wp2_with fail
    go_ret
    exact ⟨rfl, hb'⟩
/-! Repeating one. -/
def repS (s : ByteArray) : ByteArray := if validB s.data.toList = true ∧ s.size + 3 ≤ 120 then (⟨#[40]⟩ ++ s) ++ ⟨#[41, 35]⟩ else ⟨#[]⟩
theorem repS_yes {s : ByteArray} (h : validB s.data.toList = true) (h3 : s.size + 3 ≤ 120) : (⟨#[40]⟩ ++ s) ++ ⟨#[41, 35]⟩ = repS s := by unfold repS; rw [if_pos ⟨h, h3⟩]
theorem repS_no {s : ByteArray} (h : validB s.data.toList = false) : (⟨#[]⟩ : ByteArray) = repS s := by unfold repS; rw [if_neg (by rw [h]; rintro ⟨h, _⟩; cases h)]
theorem repS_long {s : ByteArray} (h : ¬ s.size + 3 ≤ 120) : (⟨#[]⟩ : ByteArray) = repS s := by unfold repS; rw [if_neg (fun h' => h h'.2)]
theorem rep_size (s : ByteArray) : ((⟨#[40]⟩ ++ s) ++ ⟨#[41, 35]⟩ : ByteArray).size = s.size + 3 := by
  rw [ByteArray.size_append, ByteArray.size_append]
  show 1 + s.size + 2 = _
  omega
theorem ret_str {x y : ByteArray} (h : x = y) : Ending.returned (.string x) = .returned (.string y) := by rw [h]
theorem iRepeat_is (s : ByteArray) (w : World) (hs : s.size ≤ 1048576) :
    Calls Tryd.prog 12 #[.string s] w fun e w' => e = .returned (.string (repS s)) ∧ Below w.heap.size w w' := by
  have s1 : ¬ 9223372036854775807 < 1 + s.size := by omega
  have s2 : ¬ 9223372036854775807 < 1 + s.size + 2 := by omega
  cases hv : validB s.data.toList with
  | false =>
    have HV := Lib.hid hv
    clear hv
    go_enter Tryd.func12, Tryd.ntmps12
    go_wp2_with fail
    refine (iValid_is s false _ HV.out).mono ?_
    rintro e w' ⟨rfl, hb⟩
    go_wp2_with fail
    go_ret
    exact ⟨ret_str (repS_no HV.out), hb⟩
  | true =>
    have HV := Lib.hid hv
    have hl := valid_len hv
    rw [← size_len] at hl
    clear hv
    have hz : (((⟨#[40]⟩ ++ s) ++ ⟨#[41, 35]⟩ : ByteArray).size : Int) = (s.size : Int) + 3 := by rw [rep_size]; omega
    have HZ := Lib.hid hz
    clear hz
    by_cases h3 : s.size + 3 ≤ 120
    · have h3' : ¬ (120 : Int) < ((⟨#[40]⟩ ++ s) ++ ⟨#[41, 35]⟩ : ByteArray).size := by rw [HZ.out]; omega
      go_enter Tryd.func12, Tryd.ntmps12
      go_wp2_with fail
      refine (iValid_is s true _ HV.out).mono ?_
      rintro e w' ⟨rfl, hb⟩
      go_wp2_with fail
      go_ret
      exact ⟨ret_str (repS_yes HV.out h3), hb⟩
    · have h3' : (120 : Int) < ((⟨#[40]⟩ ++ s) ++ ⟨#[41, 35]⟩ : ByteArray).size := by rw [HZ.out]; omega
      go_enter Tryd.func12, Tryd.ntmps12
      go_wp2_with fail
      refine (iValid_is s true _ HV.out).mono ?_
      rintro e w' ⟨rfl, hb⟩
      go_wp2_with fail
      go_ret
      exact ⟨ret_str (repS_long h3), hb⟩
end Go.Proofs.YtdhpcpmjdffgmaaDoor
