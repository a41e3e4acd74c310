/- The first part of an expression and the rest, the model's; nothing that was there changes. Conditions: the text begins with a part; it is no longer than 2^20. -/
import Derived.Test.YtefjeccnkfmgeaaEnd
import Derived.Deep.QuietTactic
import Derived.BigQuiet
namespace Go.Proofs.Ytefjeccnkfmgeaa
open Go.RowKit
set_option maxHeartbeats 2000000
set_option maxRecDepth 100000
set_option linter.unusedVariables false

theorem below_dr0 {B : Nat} {a w : World} (h : Below B a w) (m : Nat) : Below B a (w.drewN m) := ⟨h.os, h.tape, h.output, h.size, h.block⟩
theorem ext_mid (s : ByteArray) (a b : Nat) : (s.extract a b).data.toList = (s.data.toList.drop a).take (b - a) := by
  rw [ByteArray.data_extract, Array.toList_extract, List.extract_eq_take_drop]
theorem next_lit (s : ByteArray) (b : Bool) (l : List UInt8) (w : World) (hl : s.data.toList = chr b :: l) :
    Calls Try.prog 32 #[.string s] w fun e w' => ∃ p q : ByteArray, p.data.toList = [chr b] ∧ q.data.toList = l ∧ e = .returned (.tuple #[.string p, .bool false, .string q]) ∧ Below w.heap.size w w' := by
  have hsz : s.size = l.length + 1 := by rw [size_len, hl]; rfl
  have h0 : 0 < s.size := by omega
  have h0' : (0 : Int) < (s.size : Int) := by omega
  have h1' : (1 : Int) ≤ (s.size : Int) := by omega
  have hc : s[0]'h0 = chr b := by
    have := drop_at s 0 h0
    rw [List.drop_zero, hl] at this
    injection this with h1 h2
    exact h1.symm
  have e1 : (((s[0]'h0).toNat : Int) != 40) = true := bn_t (d := 40) (by rw [hc]; cases b <;> decide)
  have P1 : Hid ((s.extract 0 1).data.toList = [chr b]) := by show _ = _; rw [ext_mid, hl]; rfl
  have P2 : Hid ((s.extract 1 s.size).data.toList = l) := by show _ = _; rw [ext_suf, hl]; rfl
  clear hl hsz hc
  go_enter Try.func32, Try.ntmps32
  go_wp2_with fail
  go_quiet (fail)
  go_wp2_with fail
  refine bodyPost_ret (v := .tuple #[.string (s.extract 0 1), .bool false, .string (s.extract 1 s.size)]) (by simp [results, Try.results32, go_sem]) rfl ?_
  exact ⟨_, _, P1.out, P2.out, rfl, below_dr0 (Below.refl _ _) _⟩
theorem end_rep {s : ByteArray} {i : Tx} {l : List UInt8} (hi : i.any = true) (hg : i.good = true) (hl : s.data.toList = 40 :: (i.text ++ (41 :: 35 :: l))) :
    endI s 1 = ((i.text.length + 1 : Nat) : Int) ∧ i.text.length + 3 ≤ s.size := by
  have hsz : s.size = i.text.length + l.length + 3 := by rw [size_len, hl]; simp; omega
  have hd : s.data.toList.drop 1 = i.text ++ (41 :: 35 :: l) := by rw [hl]; rfl
  unfold endI contF
  rw [hd, P_text i _ hg (.inr ⟨_, rfl⟩)]
  simp only [hi, Bool.or_true, if_true, List.length_cons]
  omega
theorem next_rep (s : ByteArray) (i : Tx) (l : List UInt8) (w : World) (hs : s.size ≤ 1048576) (hi : i.any = true) (hg : i.good = true) (hl : s.data.toList = 40 :: (i.text ++ (41 :: 35 :: l))) :
    Calls Try.prog 32 #[.string s] w fun e w' => ∃ p q : ByteArray, p.data.toList = i.text ∧ q.data.toList = l ∧ e = .returned (.tuple #[.string p, .bool true, .string q]) ∧ Below w.heap.size w w' := by
  obtain ⟨he, hz⟩ := end_rep hi hg hl
  obtain ⟨j, hj⟩ : ∃ j, j = i.text.length + 1 := ⟨_, rfl⟩
  have hjs : j + 2 ≤ s.size := by omega
  have h0 : 0 < s.size := by omega
  have h0' : (0 : Int) < (s.size : Int) := by omega
  have h1' : (1 : Int) ≤ (j : Int) := by omega
  have h2' : (j : Int) ≤ (s.size : Int) := by omega
  have h3' : (j : Int) + 2 ≤ (s.size : Int) := by omega
  have h4' : (0 : Int) ≤ (j : Int) + 2 := by omega
  have hc : s[0]'h0 = 40 := by
    have := drop_at s 0 h0
    rw [List.drop_zero, hl] at this
    injection this with h1 h2
    exact h1.symm
  have e1 : (((s[0]'h0).toNat : Int) != 40) = false := bn_f (d := 40) hc
  have P1 : Hid ((s.extract 1 j).data.toList = i.text) := by show _ = _; rw [ext_mid, hl, hj]; simp
  have P2 : Hid ((s.extract (j + 2) s.size).data.toList = l) := by
    show _ = _
    rw [ext_suf, hl, hj]
    have e : i.text.length + 1 + 2 = (i.text.length + 2) + 1 := by omega
    rw [e, List.drop_succ_cons, List.drop_append]
    have e2 : i.text.length + 2 - i.text.length = 2 := by omega
    rw [e2, List.drop_of_length_le (by omega)]
    rfl
  have hcall := end_any s 1 w hs (by omega)
  rw [he, ← hj] at hcall
  have e0 : ((1 : Nat) : Int) = 1 := rfl
  rw [e0] at hcall
  have HCALL := Lib.hid hcall
  clear hl hc he hz hj hcall e0 hi hg
  go_enter Try.func32, Try.ntmps32
  go_wp2_with fail
  refine HCALL.out.mono ?_
  rintro e w' ⟨rfl, rfl⟩
  go_wp2_with fail
  go_quiet (fail)
  go_wp2_with fail
  refine bodyPost_ret (v := .tuple #[.string (s.extract 1 j), .bool true, .string (s.extract (j + 2) s.size)]) (by simp [results, Try.results32, go_sem]) rfl ?_
  exact ⟨_, _, P1.out, P2.out, rfl, below_dr0 (Below.refl _ _) _⟩
end Go.Proofs.Ytefjeccnkfmgeaa
