/- The expansion of an expression, the program's and the model's, and what the law says of both; nothing that was there changes. No condition. -/
import Derived.Test.YtdhpcpmjdffgmaaDoorWrite
import Derived.Test.YtdhpcpmjdffgmaaDoorExpS
namespace Go.Proofs.YtdhpcpmjdffgmaaDoor
open Go.RowKit
set_option maxHeartbeats 2000000
set_option maxRecDepth 100000
set_option linter.unusedVariables false

/-- What is returned: a word and true, or nothing and false. -/
def exRet : Option (List UInt8) → Value
  | some l => .tuple #[.string ⟨l.toArray⟩, .bool true]
  | none => .tuple #[.string ⟨#[]⟩, .bool false]
def expX (x : Ex) (n : Int) : Option (List UInt8) := if 1 ≤ n ∧ (expE n.toNat x).length ≤ 1000 then some (expE n.toNat x) else none
def expR (l : List UInt8) (n : Int) : Option (List UInt8) := (nodeF l).bind fun x => expX x n
theorem expX_low {x : Ex} {n : Int} (h : n < 1) : expX x n = none := by unfold expX; rw [if_neg (by omega)]
theorem expX_long {x : Ex} {n : Nat} (h : ¬ (expE n x).length ≤ 1000) : expX x n = none := by unfold expX; rw [if_neg (fun h' => h h'.2)]
theorem expX_yes {x : Ex} {n : Nat} (hn : 1 ≤ n) (h : (expE n x).length ≤ 1000) : expX x n = some (expE n x) := by unfold expX; rw [if_pos ⟨by omega, h⟩]; rfl
theorem ret_ex {r : Option (List UInt8)} {v : Value} (h : exRet r = v) : Ending.returned v = .returned (exRet r) := by rw [h]
theorem expansion_any (x : Ex) (n : Int) (w : World) (hn9 : n ≤ 9223372036854775807) :
    Calls Tryd.prog 18 #[exV x, .int .i64 n] w fun e w' => e = .returned (exRet (expX x n)) ∧ Below w.heap.size w w' := by
  rw [exV_is x]
  by_cases h1 : n < 1
  · have HR := Lib.hid (expX_low (x := x) h1)
    go_enter Tryd.func18, Tryd.ntmps18
    go_wp2_with fail
    go_ret2
    exact ⟨ret_ex (by rw [HR.out]; rfl), Below.refl _ _⟩
  · obtain ⟨m, rfl⟩ : ∃ m : Nat, n = (m : Int) := ⟨n.toNat, by omega⟩
    have hm : 1 ≤ m := by omega
    by_cases h2 : (expE m x).length ≤ 1000
    · have hw2 : ¬ (1000 : Int) < weightE 1 m x := fun h => (weight_fits hm x).1 h h2
      have HR := Lib.hid (expX_yes hm h2)
      go_enter Tryd.func18, Tryd.ntmps18
      go_wp2_with fail
      refine (weights_any 1 m _).mono ?_
      rintro e w1 ⟨p, q, rfl, hp, hq, hb1⟩
      have HB1 := Lib.hid hb1
      have hc := ofW_all p q 1 m (by omega) (by omega) (by omega) x w1 hp hq
      rw [exV_is x] at hc
      have HC := Lib.hid hc
      clear hb1 hp hq hc
      go_wp2_with fail
      refine HC.out.mono ?_
      rintro e w2 ⟨rfl, hb2⟩
      have HB2 := Lib.hid (HB1.out.trans (hb2.mono HB1.out.size))
      clear hb2
      obtain ⟨w3, hw3⟩ : ∃ w3, w3 = w2.alloc (.cells #[.pointer none, .slice none 0 0] 70) := ⟨_, rfl⟩
      have HI : Hid (Lib.IsBuilder 70 5 w2.heap.size w2.heap.size (Lib.byteCells []) w3) := by
        rw [hw3]
        exact .inl ⟨Nat.le_refl _, .slice none 0 0, Blk.new _ _ _, World.ownsRow_nil _ _ _ _, by simp [Value.ownBlock]⟩
      have HB3 : Hid (Below w2.heap.size w2 w3) := by rw [hw3]; exact (Below.refl _ _).alloc (Nat.le_refl _) _
      have hs3 : w3.heap.size = w2.heap.size + 1 := by rw [hw3]; simp
      go_wp2_with fail
      rw [← hw3]
      clear hw3
      rw [methodW]
      simp only [Result.andThen]
      rw [enterW, Oper.upon_enter]
      refine (write_all m hm x w2.heap.size w2.heap.size [] _ HI.out (by omega) (by omega) (by simp only [List.length_nil]; omega)).mono ?_
      rintro e w4 ⟨rfl, hI4, hB4, _⟩
      have HI4 := Lib.hid hI4
      have HB4 := Lib.hid (HB3.out.trans hB4)
      clear hI4 hB4
      go_wp2_with fail
      refine (Tryd.Builder_String_any w2.heap.size w2.heap.size _ _ HI4.out HB4.out.size).mono ?_
      rintro e w5 ⟨rfl, b5⟩
      have HB5 := Lib.hid (HB2.out.trans ((HB4.out.trans b5).mono HB2.out.size))
      clear b5
      go_wp2_with fail
      go_ret2
      exact ⟨ret_ex (by rw [HR.out]; rfl), HB5.out⟩
    · have hw2 : (1000 : Int) < weightE 1 m x := (weight_fits hm x).2 h2
      have HR := Lib.hid (expX_long h2)
      go_enter Tryd.func18, Tryd.ntmps18
      go_wp2_with fail
      refine (weights_any 1 m _).mono ?_
      rintro e w1 ⟨p, q, rfl, hp, hq, hb1⟩
      have HB1 := Lib.hid hb1
      have hc := ofW_all p q 1 m (by omega) (by omega) (by omega) x w1 hp hq
      rw [exV_is x] at hc
      have HC := Lib.hid hc
      clear hb1 hp hq hc
      go_wp2_with fail
      refine HC.out.mono ?_
      rintro e w2 ⟨rfl, hb2⟩
      have HB2 := Lib.hid (HB1.out.trans (hb2.mono HB1.out.size))
      clear hb2
      go_wp2_with fail
      go_ret2
      exact ⟨ret_ex (by rw [HR.out]; rfl), HB2.out⟩
theorem iExpand_is (s : ByteArray) (n : Int) (w : World) (hn9 : n ≤ 9223372036854775807) :
    Calls Tryd.prog 5 #[.string s, .int .i64 n] w fun e w' => e = .returned (exRet (expR s.data.toList n)) ∧ Below w.heap.size w w' := by
  cases hn : nodeF s.data.toList with
  | none =>
    have HN := Lib.hid hn
    have HR : Hid (expR s.data.toList n = none) := by show _ = _; unfold expR; rw [hn]; rfl
    clear hn
    go_enter Tryd.func5, Tryd.ntmps5
    go_wp2_with fail
    refine (nodeOf_no s _ HN.out).mono ?_
    rintro e w' ⟨rfl, hb⟩
    go_wp2_with fail
    go_ret2
    exact ⟨ret_ex (by rw [HR.out]; rfl), hb⟩
  | some x =>
    have HN := Lib.hid hn
    have HR : Hid (expR s.data.toList n = expX x n) := by show _ = _; unfold expR; rw [hn]; rfl
    clear hn
    go_enter Tryd.func5, Tryd.ntmps5
    go_wp2_with fail
    refine (nodeOf_yes s _ x HN.out).mono ?_
    rintro e w1 ⟨rfl, hb⟩
    have HB := Lib.hid hb
    clear hb
    obtain ⟨t0, v0, hx0⟩ := exV_iface x
    have hc := expansion_any x n w1 hn9
    rw [hx0] at hc ⊢
    have HC := Lib.hid hc
    clear hc
    go_wp2_with fail
    refine HC.out.mono ?_
    rintro e w2 ⟨rfl, hb2⟩
    have HB2 := Lib.hid (HB.out.trans (hb2.mono HB.out.size))
    clear hb2
    cases hx : expX x n with
    | none =>
      have HX := Lib.hid hx
      simp only [exRet]
      go_wp2_with fail
      go_ret2
      exact ⟨ret_ex (by rw [HR.out, HX.out]; rfl), HB2.out⟩
    | some l =>
      have HX := Lib.hid hx
      simp only [exRet]
      go_wp2_with fail
      go_ret2
      exact ⟨ret_ex (by rw [HR.out, HX.out]; rfl), HB2.out⟩
theorem sExpand_is (s : ByteArray) (n : Int) (w : World) (hn9 : n ≤ 9223372036854775807) (hs : s.size ≤ 1048576) :
    Calls Tryd.prog 6 #[.string s, .int .i64 n] w fun e w' => e = .returned (exRet (expR s.data.toList n)) ∧ Below w.heap.size w w' := by
  cases hv : validB s.data.toList with
  | false =>
    have HV := Lib.hid hv
    have HR : Hid (expR s.data.toList n = none) := by
      show _ = _
      rw [valid_node] at hv
      unfold expR
      cases hn : nodeF s.data.toList with
      | none => rfl
      | some x => rw [hn] at hv; cases hv
    clear hv
    go_enter Tryd.func6, Tryd.ntmps6
    go_wp2_with fail
    refine (sValid_is s false _ hs HV.out).mono ?_
    rintro e w' ⟨rfl, rfl⟩
    go_wp2_with fail
    go_ret2
    exact ⟨ret_ex (by rw [HR.out]; rfl), Below.refl _ _⟩
  | true =>
    have HV := Lib.hid hv
    have hl := valid_len hv
    rw [← size_len] at hl
    obtain ⟨t, y, hp, ht, hg, ha, hy, hn⟩ := valid_parts hv
    have HR : Hid (expR s.data.toList n = expX y n) := by show _ = _; unfold expR; rw [hn]; rfl
    by_cases h1 : n < 1
    · have HR2 := Lib.hid (HR.out.trans (expX_low h1))
      clear hv hp ht hg ha hy hn
      go_enter Tryd.func6, Tryd.ntmps6
      go_wp2_with fail
      refine (sValid_is s true _ hs HV.out).mono ?_
      rintro e w' ⟨rfl, rfl⟩
      go_wp2_with fail
      go_ret2
      exact ⟨ret_ex (by rw [HR2.out]; rfl), Below.refl _ _⟩
    · obtain ⟨m, rfl⟩ : ∃ m : Nat, n = (m : Int) := ⟨n.toNat, by omega⟩
      have hm : 1 ≤ m := by omega
      have he : expE m y = expT m t := by have := ex_exp m t none y hy; simpa [accX] using this
      have HE := Lib.hid he
      have HC := Lib.hid (expand_all m hm (by omega) (t.text.length + 1) t s w hg (Nat.lt_succ_self _) ht hl)
      have HTL : Hid (t.text.length ≤ 120) := by show _ ≤ _; rw [← ht, ← size_len]; exact hl
      clear hv hp ht hg ha hy hn he
      go_enter Tryd.func6, Tryd.ntmps6
      go_wp2_with fail
      refine (sValid_is s true _ hs HV.out).mono ?_
      rintro e w' ⟨rfl, rfl⟩
      go_wp2_with fail
      refine HC.out.mono ?_
      rintro e w1 ⟨q, rfl, hT, hqz, hb⟩
      have HB := Lib.hid hb
      by_cases h2 : (expT m t).length ≤ 1000
      · have hq := hT.1 h2
        have hqs : ¬ (1000 : Int) < (q.size : Int) := by rw [size_len, hq]; omega
        have HX : Hid (expR s.data.toList (m : Int) = some q.data.toList) := by
          show _ = _
          rw [HR.out, expX_yes hm (by rw [HE.out]; exact h2), HE.out, hq]
        clear hT hqz hb hq
        go_wp2_with fail
        go_ret2
        exact ⟨ret_ex (by rw [HX.out]; rfl), HB.out⟩
      · have hq := hT.2 h2
        have hqs : (1000 : Int) < (q.size : Int) := by rw [size_len]; omega
        have HX : Hid (expR s.data.toList (m : Int) = none) := by
          show _ = _
          rw [HR.out, expX_long (by rw [HE.out]; exact h2)]
        clear hT hqz hb hq
        go_wp2_with fail
        go_ret2
        exact ⟨ret_ex (by rw [HX.out]; rfl), HB.out⟩
end Go.Proofs.YtdhpcpmjdffgmaaDoor
