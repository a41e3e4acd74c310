/- Whether a text is an expression, and the expression that repeats one, the program's and the model's, and what the laws say of both; nothing that was there changes. No condition. -/
import Derived.Test.YthcfdmphephfpaaGreatNodeOf
import Derived.Test.YthcfdmphephfpaaGreatNextP
namespace Go.Proofs.YthcfdmphephfpaaGreat
open Go.RowKit
set_option maxHeartbeats 2000000
set_option maxRecDepth 100000
set_option linter.unusedVariables false

def validB (l : List UInt8) : Bool := (parseT l).isSome
theorem valid_node (l : List UInt8) : validB l = (nodeF l).isSome := (node_isSome l).symm
theorem valid_len {l : List UInt8} (h : validB l = true) : l.length ≤ 120 := by
  unfold validB at h
  cases hp : parseT l with
  | none => rw [hp] at h; cases h
  | some t => exact (parse_spec hp).2.2.2
theorem text_pos {t : Tx} (h : t.any = true) : 0 < t.text.length := by
  cases t with
  | nil => cases h
  | lit b r => simp [Tx.text]
  | rep i r => simp [Tx.text]
/-- The model's test. -/
theorem valid_end (s : ByteArray) (h : s.size ≤ 120) : validB s.data.toList = ((endI s 0 == (s.size : Int)) && decide (0 < s.size)) := by
  have hl : s.data.toList.length = s.size := (size_len s).symm
  unfold validB parseT endI contF
  rw [if_pos (by rw [hl]; exact h), List.drop_zero]
  cases hp : P s.data.toList with
  | none =>
    simp only [Option.isSome_none]
    have : ((-1 : Int) == (s.size : Int)) = false := by rw [beq_eq_false_iff_ne]; omega
    rw [this]; rfl
  | some p =>
    obtain ⟨t, r⟩ := p
    obtain ⟨e1, _, _, e4⟩ := P_spec hp
    have e5 := congrArg List.length e1
    rw [List.length_append, hl] at e5
    cases ht : t.any with
    | false =>
      have hm : ((-1 : Int) == (s.size : Int)) = false := by rw [beq_eq_false_iff_ne]; omega
      cases r with
      | nil => simp [ht, hm]
      | cons d r => simp [ht, hm]
    | true =>
      have hpos := text_pos ht
      have h0 : decide (0 < s.size) = true := decide_eq_true (by omega)
      rw [h0]
      cases r with
      | nil =>
        simp only [ht, Bool.false_or, if_true, Bool.and_true, Option.isSome_some, List.length_nil]
        have : (((s.size : Int) - ((0 : Nat) : Int)) == (s.size : Int)) = true := by rw [beq_iff_eq]; omega
        rw [this]
      | cons d r =>
        simp only [ht, Bool.false_or, if_true, Bool.and_true, Option.isSome_none]
        have : (((s.size : Int) - ((d :: r).length : Nat)) == (s.size : Int)) = false := by rw [beq_eq_false_iff_ne]; simp only [List.length_cons]; omega
        rw [this]
theorem valid_long (s : ByteArray) (h : ¬ s.size ≤ 120) : validB s.data.toList = false := by
  cases hv : validB s.data.toList with
  | false => rfl
  | true => exact absurd (by rw [size_len]; exact valid_len hv) h
theorem sValid_is (s : ByteArray) (b : Bool) (w : World) (hs : s.size ≤ 1048576) (hb : validB s.data.toList = b) :
    Calls Tryz.prog 19 #[.string s] w fun e w' => e = .returned (.bool b) ∧ w' = w := by
  by_cases h : s.size ≤ 120
  · have h' : (s.size : Int) ≤ 120 := by omega
    have he := (valid_end s h).symm.trans hb
    have hc := end_any s 0 w hs (Nat.zero_le _)
    have e0 : ((0 : Nat) : Int) = 0 := rfl
    rw [e0] at hc
    obtain ⟨j, hj⟩ : ∃ j, endI s 0 = j := ⟨_, rfl⟩
    rw [hj] at he hc
    have HC := Lib.hid hc
    clear hc hj hb hs
    cases hq : (j == (s.size : Int)) with
    | false =>
      rw [hq, Bool.false_and] at he
      subst he
      go_enter Tryz.func19, Tryz.ntmps19
      go_wp2_with fail
      refine HC.out.mono ?_
      rintro e w' ⟨rfl, rfl⟩
      go_wp2_with fail
      go_ret
      exact ⟨rfl, rfl⟩
    | true =>
      rw [hq, Bool.true_and] at he
      subst he
      go_enter Tryz.func19, Tryz.ntmps19
      go_wp2_with fail
      refine HC.out.mono ?_
      rintro e w' ⟨rfl, rfl⟩
      go_wp2_with fail
      go_ret
      exact ⟨rfl, rfl⟩
  · have h' : ¬ (s.size : Int) ≤ 120 := by omega
    have he := (valid_long s h).symm.trans hb
    subst he
    go_enter Tryz.func19, Tryz.ntmps19
    go_wp2_with fail
    go_ret
    exact ⟨rfl, rfl⟩
/-! Repeating one. -/
def repS (s : ByteArray) : ByteArray := if validB s.data.toList = true ∧ s.size + 3 ≤ 120 then (⟨#[40]⟩ ++ s) ++ ⟨#[41, 35]⟩ else ⟨#[]⟩
theorem repS_yes {s : ByteArray} (h : validB s.data.toList = true) (h3 : s.size + 3 ≤ 120) : (⟨#[40]⟩ ++ s) ++ ⟨#[41, 35]⟩ = repS s := by unfold repS; rw [if_pos ⟨h, h3⟩]
theorem repS_no {s : ByteArray} (h : validB s.data.toList = false) : (⟨#[]⟩ : ByteArray) = repS s := by unfold repS; rw [if_neg (by rw [h]; rintro ⟨h, _⟩; cases h)]
theorem repS_long {s : ByteArray} (h : ¬ s.size + 3 ≤ 120) : (⟨#[]⟩ : ByteArray) = repS s := by unfold repS; rw [if_neg (fun h' => h h'.2)]
theorem rep_size (s : ByteArray) : ((⟨#[40]⟩ ++ s) ++ ⟨#[41, 35]⟩ : ByteArray).size = s.size + 3 := by
  rw [ByteArray.size_append, ByteArray.size_append]
  show 1 + s.size + 2 = _
  omega
theorem ret_str {x y : ByteArray} (h : x = y) : Ending.returned (.string x) = .returned (.string y) := by rw [h]
end Go.Proofs.YthcfdmphephfpaaGreat
