/- The reader of expressions: a mark is taken off the front of what is left, if it is there. Only the reader's own cell changes. No condition. -/
import Derived.Test.YtefjeccnkfmgeaaEx
import Derived.Test.YtefjeccnkfmgeaaDrawKit
import Derived.IntWalk
import Derived.WalkSmall
namespace Go.Proofs.Ytefjeccnkfmgeaa
open Go.RowKit
set_option maxHeartbeats 1000000
set_option maxRecDepth 100000
set_option linter.unusedVariables false

theorem size_len (s : ByteArray) : s.size = s.data.toList.length := by simp
theorem ext_pre (s : ByteArray) (n : Nat) : (s.extract 0 n).toList = s.data.toList.take n := by
  rw [ByteArray.toList_eq, ByteArray.data_extract]; simp
theorem ext_suf (s : ByteArray) (n : Nat) : (s.extract n s.size).data.toList = s.data.toList.drop n := by
  rw [ByteArray.data_extract, Array.toList_extract]
  rw [List.extract_eq_take_drop, List.take_of_length_le (by simp)]
theorem hasPrefix_long (s m : ByteArray) (w : World) (h : s.size < m.size) :
    Calls Try.prog 47 #[.string s, .string m] w fun e w' => e = .returned (.bool false) ∧ w' = w := by
  have h' : ¬ (m.size : Int) ≤ (s.size : Int) := by omega
  go_enter Try.func47, Try.ntmps47
  go_wp2_with fail
  go_ret
  exact ⟨rfl, rfl⟩
theorem hasPrefix_fits (s m : ByteArray) (w : World) (h : m.size ≤ s.size) :
    Calls Try.prog 47 #[.string s, .string m] w fun e w' => e = .returned (.bool ((s.extract 0 m.size).toList == m.toList)) ∧ w' = w := by
  have h' : (m.size : Int) ≤ (s.size : Int) := by omega
  have h0 : (0 : Int) ≤ (m.size : Int) := by omega
  go_enter Try.func47, Try.ntmps47
  go_wp2_with fail
  go_ret
  exact ⟨rfl, rfl⟩
theorem hasPrefix_is (s m : ByteArray) (r : Bool) (w : World) (hr : m.data.toList.isPrefixOf s.data.toList = r) :
    Calls Try.prog 47 #[.string s, .string m] w fun e w' => e = .returned (.bool r) ∧ w' = w := by
  by_cases h : m.size ≤ s.size
  · have e : ((s.extract 0 m.size).toList == m.toList) = r := by
      rw [ext_pre, ByteArray.toList_eq, ← hr, size_len m]
      rw [Bool.eq_iff_iff, beq_iff_eq, List.isPrefixOf_iff_prefix, List.prefix_iff_eq_take]
      exact eq_comm
    rw [← e]
    exact hasPrefix_fits s m w h
  · have e : r = false := by
      rw [← hr, Bool.eq_false_iff]
      intro h'
      have := (List.isPrefixOf_iff_prefix.1 h').length_le
      rw [size_len, size_len] at h
      exact h this
    subst e
    exact hasPrefix_long s m w (by omega)
theorem sHasPrefix_is (s m : ByteArray) (r : Bool) (w : World) (hr : m.data.toList.isPrefixOf s.data.toList = r) :
    Calls Try.prog 43 #[.string s, .string m] w fun e w' => e = .returned (.bool r) ∧ w' = w := by
  have HR := Lib.hid hr
  clear hr
  go_enter Try.func43, Try.ntmps43
  go_wp2_with fail
  refine (hasPrefix_is s m r _ HR.out).mono ?_
  rintro e w' ⟨rfl, rfl⟩
  go_wp2_with fail
  go_ret
  exact ⟨rfl, rfl⟩
theorem cutPrefix_no (s m : ByteArray) (w : World) (hr : m.data.toList.isPrefixOf s.data.toList = false) :
    Calls Try.prog 49 #[.string s, .string m] w fun e w' => e = .returned (.tuple #[.string s, .bool false]) ∧ w' = w := by
  have HR := Lib.hid hr
  clear hr
  go_enter Try.func49, Try.ntmps49
  go_wp2_with fail
  refine (hasPrefix_is s m false _ HR.out).mono ?_
  rintro e w' ⟨rfl, rfl⟩
  go_wp2_with fail
  go_ret2
  exact ⟨rfl, rfl⟩
theorem cutPrefix_yes (s m : ByteArray) (w : World) (hr : m.data.toList.isPrefixOf s.data.toList = true) :
    Calls Try.prog 49 #[.string s, .string m] w fun e w' => e = .returned (.tuple #[.string (s.extract m.size s.size), .bool true]) ∧ w' = w := by
  have h1 : (m.size : Int) ≤ (s.size : Int) := by
    have := (List.isPrefixOf_iff_prefix.1 hr).length_le
    rw [size_len, size_len]; omega
  have h0 : (0 : Int) ≤ (m.size : Int) := by omega
  have HR := Lib.hid hr
  clear hr
  go_enter Try.func49, Try.ntmps49
  go_wp2_with fail
  refine (hasPrefix_is s m true _ HR.out).mono ?_
  rintro e w' ⟨rfl, rfl⟩
  go_wp2_with fail
  go_ret2
  exact ⟨rfl, rfl⟩
theorem sCutPrefix_any (s m : ByteArray) (w : World) :
    Calls Try.prog 48 #[.string s, .string m] w fun e w' => e = .returned (.tuple #[.string (if m.data.toList.isPrefixOf s.data.toList then s.extract m.size s.size else s), .bool (m.data.toList.isPrefixOf s.data.toList)]) ∧ w' = w := by
  cases hr : m.data.toList.isPrefixOf s.data.toList with
  | true =>
    simp only [if_true]
    have HR := Lib.hid hr
    clear hr
    go_enter Try.func48, Try.ntmps48
    go_wp2_with fail
    refine (cutPrefix_yes s m _ HR.out).mono ?_
    rintro e w' ⟨rfl, rfl⟩
    go_wp2_with fail
    go_ret2
    exact ⟨rfl, rfl⟩
  | false =>
    simp only [Bool.false_eq_true, if_false]
    have HR := Lib.hid hr
    clear hr
    go_enter Try.func48, Try.ntmps48
    go_wp2_with fail
    refine (cutPrefix_no s m _ HR.out).mono ?_
    rintro e w' ⟨rfl, rfl⟩
    go_wp2_with fail
    go_ret2
    exact ⟨rfl, rfl⟩
/-- A mark is there. -/
theorem take_yes (A : Nat) (s m : ByteArray) (l : List UInt8) (w : World) (hb : Blk w A 51 #[.string s]) (hl : s.data.toList = m.data.toList ++ l) :
    Calls Try.prog 45 #[.pointer (some ⟨A, 0, none⟩), .string m] w fun e w' => ∃ q : ByteArray, q.data.toList = l ∧ e = .returned (.bool true) ∧ w' = w.setCell ⟨A, 0, none⟩ (.string q) := by
  have hp : m.data.toList.isPrefixOf s.data.toList = true := by rw [List.isPrefixOf_iff_prefix, hl]; exact List.prefix_append _ _
  have hq : (s.extract m.size s.size).data.toList = l := by rw [ext_suf, hl, size_len m]; simp
  obtain ⟨q, hqe⟩ : ∃ q, q = s.extract m.size s.size := ⟨_, rfl⟩
  have hc := sCutPrefix_any s m w
  rw [hp] at hc
  simp only [if_true] at hc
  rw [← hqe] at hc hq
  have HC := Lib.hid hc
  have HQ := Lib.hid hq
  have c0 : w.cell? ⟨A, 0, none⟩ = some (.string s) := hb.cell 0
  have f0 : w.frozen? ⟨A, 0, none⟩ = false := hb.frozen 0
  clear hp hq hqe hc hl hb
  go_enter Try.func45, Try.ntmps45
  go_wp2_with fail
  refine HC.out.mono ?_
  rintro e w' ⟨rfl, rfl⟩
  go_wp2_with fail
  go_ret
  exact ⟨q, HQ.out, rfl, rfl⟩
/-- A mark is not there. -/
theorem take_no (A : Nat) (s m : ByteArray) (w : World) (hb : Blk w A 51 #[.string s]) (hl : m.data.toList.isPrefixOf s.data.toList = false) :
    Calls Try.prog 45 #[.pointer (some ⟨A, 0, none⟩), .string m] w fun e w' => e = .returned (.bool false) ∧ w' = w.setCell ⟨A, 0, none⟩ (.string s) := by
  have hc := sCutPrefix_any s m w
  rw [hl] at hc
  simp only [Bool.false_eq_true, if_false] at hc
  have HC := Lib.hid hc
  have c0 : w.cell? ⟨A, 0, none⟩ = some (.string s) := hb.cell 0
  have f0 : w.frozen? ⟨A, 0, none⟩ = false := hb.frozen 0
  clear hc hl hb
  go_enter Try.func45, Try.ntmps45
  go_wp2_with fail
  refine HC.out.mono ?_
  rintro e w' ⟨rfl, rfl⟩
  go_wp2_with fail
  go_ret
  exact ⟨rfl, rfl⟩
theorem need_yes (A : Nat) (s m : ByteArray) (l : List UInt8) (w : World) (hb : Blk w A 51 #[.string s]) (hl : s.data.toList = m.data.toList ++ l) :
    Calls Try.prog 46 #[.pointer (some ⟨A, 0, none⟩), .string m] w fun e w' => ∃ q : ByteArray, q.data.toList = l ∧ e = .returned (.tuple #[]) ∧ w' = w.setCell ⟨A, 0, none⟩ (.string q) := by
  have HB := Lib.hid hb
  have HL := Lib.hid hl
  clear hb hl
  go_enter Try.func46, Try.ntmps46
  go_wp2_with fail
  refine (take_yes A s m l _ HB.out HL.out).mono ?_
  rintro e w' ⟨q, hq, rfl, rfl⟩
  go_wp2_with fail
  go_end0
  exact ⟨q, hq, rfl, rfl⟩
theorem need_no (A : Nat) (s m : ByteArray) (w : World) (hm : m.size ≤ 2) (hb : Blk w A 51 #[.string s]) (hl : m.data.toList.isPrefixOf s.data.toList = false) :
    Calls Try.prog 46 #[.pointer (some ⟨A, 0, none⟩), .string m] w fun e w' => (∃ v, e = .panicked [{ v := .iface 9 v, recovered := false }]) ∧ w' = w.setCell ⟨A, 0, none⟩ (.string s) := by
  have hm' : ¬ 9223372036854775807 < 3 + m.size := by omega
  have HB := Lib.hid hb
  have HL := Lib.hid hl
  clear hb hl
  go_enter Try.func46, Try.ntmps46
  go_wp2_with fail
  refine (take_no A s m _ HB.out HL.out).mono ?_
  rintro e w' ⟨rfl, rfl⟩
  go_wp2_with fail
  all_goals (first | exact ⟨⟨_, rfl⟩, rfl⟩ | exact ⟨rfl, ⟨_, rfl⟩, rfl⟩ | trace_state)
end Go.Proofs.Ytefjeccnkfmgeaa
