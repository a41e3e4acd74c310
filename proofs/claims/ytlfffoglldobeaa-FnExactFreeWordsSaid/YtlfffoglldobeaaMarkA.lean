/- Steps and automata marked and held, as the laws do it. Conditions: at most 2^20 and one of each. -/
import Derived.Test.YtlfffoglldobeaaCopyM
import Derived.Test.YtlfffoglldobeaaToB
import Derived.Test.YtlfffoglldobeaaDec
namespace Go.Proofs.Ytlfffoglldobeaa
open Go.RowKit
set_option maxHeartbeats 2000000
set_option maxRecDepth 100000
set_option linter.unusedVariables false

def mtx (k : Nat) : ByteArray := ⟨#[109]⟩ ++ ⟨(Lib.decDigits k).toArray⟩
def digs (k : Nat) : List UInt8 := if k = 0 then [] else Lib.decDigits k
theorem digs_step {k : Nat} (h : 0 < k) : digs k = digs (k / 10) ++ [48 + UInt8.ofNat (k % 10)] := by
  unfold digs
  rw [if_neg (by omega)]
  by_cases h9 : 9 < k
  · rw [if_neg (by omega), dec_big h9]
  · rw [if_pos (by omega), dec_small h9, Nat.mod_eq_of_lt (by omega)]; rfl
theorem markText_any (n : Nat) (w : World) (h0 : 1 ≤ n) (h1 : n ≤ 1000000000000000) :
    Calls Try.prog 28 #[.int .i64 (n : Int)] w fun e w' => e = .returned (.string (mtx n)) ∧ Hid (Below w.heap.size w w') := by
  have hn0 : (1 : Int) ≤ (n : Int) := by omega
  go_enter Try.func28, Try.ntmps28
  go_wp2
  go_loopw [0, 3] (fun x s wr => ∃ (k : Nat) (t : ByteArray), x = .int .i64 k ∧ s = .string t ∧ t.size + k ≤ n ∧ Hid (Lib.decDigits n = digs k ++ t.data.toList) ∧ Hid (Below w.heap.size w wr)) (fun x _ _ => (intOf x).toNat)
  case atStart => exact ⟨n, ByteArray.empty, rfl, rfl, by show 0 + n ≤ n; omega, by show _ = _; unfold digs; rw [if_neg (by omega)]; simp, Below.refl _ _⟩
  case round =>
    obtain ⟨k, t, rfl, rfl, hk, hd, hb⟩ := hrel
    by_cases hlt : 0 < k
    · have hlt' : (0 : Int) < (k : Int) := by omega
      have hc := conv_one wr (48 + (k : Int) % 10)
      go_wp2
      go_roundw
      case rel =>
        refine ⟨k / 10, _, by go_num, rfl, ?_, ?_, hb.out.alloc hb.out.size _⟩
        · rw [ByteArray.size_append, ByteArray.size_push]; show 0 + 1 + t.size + k / 10 ≤ n; omega
        · show _ = _
          rw [hd.out, digs_step hlt, push_data, List.append_assoc]; rfl
      case measure => simp [intOf]; omega
    · have hlt' : ¬ (0 : Int) < (k : Int) := by omega
      have HT : Hid (mtx n = ⟨#[109]⟩ ++ t) := by
        show _ = _
        have hk0 : k = 0 := by omega
        have h := hd.out
        rw [hk0] at h
        unfold digs at h
        simp at h
        unfold mtx
        rw [h]
      clear hd
      go_wp2
      go_ret
      exact ⟨by rw [HT.out]; rfl, hb⟩

theorem flatS_set0 : ∀ (ss : List StepD) (k : Nat) (v : Int), k < ss.length → (flatS ss).set (k * 4) (.int .i64 v) = flatS (ss.set k { ss.getD k default with fr := v })
  | [], k, v, h => by simp at h
  | t :: ss, 0, v, _ => by simp [flatS]
  | t :: ss, k + 1, v, h => by
    have ih := flatS_set0 ss k v (by simpa using h)
    have e0 : (k + 1) * 4 = k * 4 + 4 := by omega
    rw [e0]
    simp only [flatS, List.set_cons_succ, List.getD_cons_succ]
    rw [ih]
theorem flatS_set1 : ∀ (ss : List StepD) (k : Nat) (v : ByteArray), k < ss.length → (flatS ss).set (k * 4 + 1) (.string v) = flatS (ss.set k { ss.getD k default with le := v })
  | [], k, v, h => by simp at h
  | t :: ss, 0, v, _ => by simp [flatS]
  | t :: ss, k + 1, v, h => by
    have ih := flatS_set1 ss k v (by simpa using h)
    have e0 : (k + 1) * 4 + 1 = k * 4 + 1 + 4 := by omega
    rw [e0]
    simp only [flatS, List.set_cons_succ, List.getD_cons_succ]
    rw [ih]
theorem flatS_set2 : ∀ (ss : List StepD) (k : Nat) (v : Int), k < ss.length → (flatS ss).set (k * 4 + 2) (.int .i64 v) = flatS (ss.set k { ss.getD k default with to_ := v })
  | [], k, v, h => by simp at h
  | t :: ss, 0, v, _ => by simp [flatS]
  | t :: ss, k + 1, v, h => by
    have ih := flatS_set2 ss k v (by simpa using h)
    have e0 : (k + 1) * 4 + 2 = k * 4 + 2 + 4 := by omega
    rw [e0]
    simp only [flatS, List.set_cons_succ, List.getD_cons_succ]
    rw [ih]
theorem flatS_set3 : ∀ (ss : List StepD) (k : Nat) (v : Int), k < ss.length → (flatS ss).set (k * 4 + 3) (.int .i64 v) = flatS (ss.set k { ss.getD k default with co := v })
  | [], k, v, h => by simp at h
  | t :: ss, 0, v, _ => by simp [flatS]
  | t :: ss, k + 1, v, h => by
    have ih := flatS_set3 ss k v (by simpa using h)
    have e0 : (k + 1) * 4 + 3 = k * 4 + 3 + 4 := by omega
    rw [e0]
    simp only [flatS, List.set_cons_succ, List.getD_cons_succ]
    rw [ih]
theorem SBlk.of_set {w : World} {g : Nat} {t : TypeId} {ss us : List StepD} (h : SBlk w g t ss) {i : Nat} {u : Value} (he : (flatS ss).set i u = flatS us) : SBlk (w.setCell ⟨g, i, none⟩ u) g t us := by
  have h1 := Blk.set_ h i u
  unfold SBlk
  rw [← he]
  simpa using h1

def markS (k : Nat) (n : Nat) : List StepD := (List.range n).map fun i => ⟨((k + 4 * i : Nat) : Int), mtx (k + 4 * i + 1), ((k + 4 * i + 2 : Nat) : Int), ((k + 4 * i + 3 : Nat) : Int)⟩
theorem markS_len (k n : Nat) : (markS k n).length = n := by simp [markS]
theorem markS_next (k n : Nat) : markS k (n + 1) = markS k n ++ [⟨((k + 4 * n : Nat) : Int), mtx (k + 4 * n + 1), ((k + 4 * n + 2 : Nat) : Int), ((k + 4 * n + 3 : Nat) : Int)⟩] := by simp [markS, List.range_succ]
theorem markS_at {k n i : Nat} (h : i < n) : (markS k n).getD i default = ⟨((k + 4 * i : Nat) : Int), mtx (k + 4 * i + 1), ((k + 4 * i + 2 : Nat) : Int), ((k + 4 * i + 3 : Nat) : Int)⟩ := by
  rw [List.getD_eq_getElem?_getD, List.getElem?_eq_getElem (by rw [markS_len]; exact h)]; simp [markS]

theorem markText_i (v : Int) (n : Nat) (w : World) (hv : v = (n : Int)) (h0 : 1 ≤ n) (h1 : n ≤ 1000000000000000) :
    Calls Try.prog 28 #[.int .i64 v] w fun e w' => e = .returned (.string (mtx n)) ∧ Hid (Below w.heap.size w w') := by
  subst hv; exact markText_any n w h0 h1
theorem grow_of_below {w w' : World} (h : Below w.heap.size w w') (r : Option Nat) : w.grownBy w' r := ⟨h.os, h.tape, h.output, h.size, fun k hk _ => h.block k hk⟩
theorem set_getD {us : List StepD} {j : Nat} (h : j < us.length) (x : StepD) : (us.set j x).getD j default = x := by
  simp [List.getD_eq_getElem?_getD, h]
theorem set_four {us : List StepD} {j : Nat} (h : j < us.length) (a : Int) (t : ByteArray) (b c : Int) :
    (((us.set j { us.getD j default with fr := a }).set j { (us.set j { us.getD j default with fr := a }).getD j default with le := t }).set j { ((us.set j { us.getD j default with fr := a }).set j { (us.set j { us.getD j default with fr := a }).getD j default with le := t }).getD j default with to_ := b }).set j
      { (((us.set j { us.getD j default with fr := a }).set j { (us.set j { us.getD j default with fr := a }).getD j default with le := t }).set j { ((us.set j { us.getD j default with fr := a }).set j { (us.set j { us.getD j default with fr := a }).getD j default with le := t }).getD j default with to_ := b }).getD j default with co := c } = us.set j ⟨a, t, b, c⟩ := by
  have h1 : ∀ x, (us.set j x).getD j default = x := set_getD h
  simp only [h1, List.set_set]
theorem take_mark {us : List StepD} {j n k0 : Nat} {x : StepD} (hl : us.length = n) (hj : j < n) (ht : us.take j = markS k0 j) (hx : x = ⟨((k0 + 4 * j : Nat) : Int), mtx (k0 + 4 * j + 1), ((k0 + 4 * j + 2 : Nat) : Int), ((k0 + 4 * j + 3 : Nat) : Int)⟩) : (us.set j x).take (j + 1) = markS k0 (j + 1) := by
  rw [markS_next, ← hx, ← ht]
  have h1 : j < (us.set j x).length := by rw [List.length_set, hl]; exact hj
  rw [List.take_succ_eq_append_getElem h1, List.getElem_set_self, List.take_set, List.set_eq_of_length_le (by simp; omega)]

theorem markStepS_any (g k0 n cap : Nat) (t : TypeId) (ss : List StepD) (w : World) (hn : n ≤ 1048577) (h0 : 1 ≤ k0) (h1 : k0 ≤ 1099511627776) (hl : ss.length = n) (hs : SBlk w g t ss) :
    Calls Try.prog 27 #[.slice (some ⟨g, 0, none⟩) n cap, .int .i64 k0] w fun e w' => e = .returned (.int .i64 ((k0 + 4 * n : Nat) : Int)) ∧ Hid (SBlk w' g t (markS k0 n)) ∧ Hid (w.grownBy w' (some g)) := by
  have HL := Lib.hid hl
  have HS := Lib.hid hs
  clear hl hs
  go_enter Try.func27, Try.ntmps27
  go_wp2_with fail
  go_loopw [1, 5] (fun q i wr => ∃ (j : Nat) (us : List StepD), j ≤ n ∧ i = .int .i64 j ∧ q = .int .i64 ((k0 + 4 * j : Nat) : Int) ∧ Hid (us.length = n) ∧ Hid (us.take j = markS k0 j) ∧ Hid (SBlk wr g t us) ∧ Hid (w.grownBy wr (some g))) (fun _ i _ => n - (intOf i).toNat)
  case atStart => exact ⟨0, ss, Nat.zero_le _, rfl, rfl, HL, Lib.hid (by simp [markS]), HS, World.grownBy.refl _ _⟩
  case round =>
    obtain ⟨j, us, hj, rfl, rfl, hul, htk, hsb, hg⟩ := hrel
    by_cases hlt : j < n
    · have hju : j < us.length := by rw [hul.out]; exact hlt
      obtain ⟨q0, q1, q2, q3⟩ := hsb.out.at_ hju
      have z0 := hsb.out.fz (j * 4)
      have z1 := hsb.out.fz (j * 4 + 1)
      have z2 := hsb.out.fz (j * 4 + 2)
      have z3 := hsb.out.fz (j * 4 + 3)
      have hi0 : (0 : Int) ≤ (j : Int) := by omega
      have hi1 : (j : Int) < (n : Int) := by omega
      have SA := Lib.hid (SBlk.of_set hsb.out (flatS_set0 us j ((k0 : Int) + 4 * (j : Int)) hju))
      have HJ := Lib.hid hju
      clear hju
      go_wp2_with fail
      refine (markText_i _ (k0 + 4 * j + 1) _ (by omega) (by omega) (by omega)).mono ?_
      rintro e w3 ⟨rfl, hb3⟩
      have S3 := Lib.hid (SA.out.below hb3.out)
      have G3 : Hid (w.grownBy w3 (some g)) := grow_trans (grow_trans hg.out (grow_set wr g (j * 4) _)) (grow_of_below hb3.out (some g))
      clear q0 q1 q2 q3 z0 z1 z2 z3 SA hb3 hsb hg
      obtain ⟨q0, q1, q2, q3⟩ := S3.out.at_ (k := j) (by rw [List.length_set]; exact HJ.out)
      have z0 := S3.out.fz (j * 4)
      have z1 := S3.out.fz (j * 4 + 1)
      have z2 := S3.out.fz (j * 4 + 2)
      have z3 := S3.out.fz (j * 4 + 3)
      go_wp2_with fail
      go_roundw
      case rel =>
        have h1 : j < (us.set j { us.getD j default with fr := (k0 : Int) + 4 * (j : Int) }).length := by rw [List.length_set]; exact HJ.out
        have X := SBlk.of_set (SBlk.of_set (SBlk.of_set S3.out (flatS_set1 _ j (mtx (k0 + 4 * j + 1)) h1)) (flatS_set2 _ j ((k0 : Int) + 4 * (j : Int) + 1 + 1) (by rw [List.length_set]; exact h1))) (flatS_set3 _ j ((k0 : Int) + 4 * (j : Int) + 1 + 1 + 1) (by rw [List.length_set, List.length_set]; exact h1))
        rw [set_four HJ.out] at X
        exact ⟨j + 1, _, by omega, by go_num, congrArg (Value.int .i64) (by omega), Lib.hid (by rw [List.length_set]; exact hul.out), Lib.hid (take_mark hul.out hlt htk.out (by rw [StepD.mk.injEq]; exact ⟨by omega, rfl, by omega, by omega⟩)), Lib.hid X, Lib.hid (grow_trans (grow_trans (grow_trans G3.out (grow_set _ g _ _)) (grow_set _ g _ _)) (grow_set _ g _ _))⟩
      case measure => simp [intOf]; omega
    · have hjn : j = n := by omega
      have e : us = markS k0 n := by
        have h := htk.out
        rwa [List.take_of_length_le (by rw [hul.out]; omega), hjn] at h
      have HF := Lib.hid (show SBlk wr g t (markS k0 n) by rw [← e]; exact hsb.out)
      have HJN := Lib.hid hjn
      clear e hjn hsb
      go_wp2_with fail
      go_ret
      exact ⟨ret_int (by rw [HJN.out]), HF, hg⟩

/-- Nothing is turned but what lies from block B on and below block T. -/
def Ins (B T : Nat) (w w' : World) : Prop := w'.os = w.os ∧ w'.tape = w.tape ∧ w'.output = w.output ∧ w.heap.size ≤ w'.heap.size ∧ ∀ j, j < w.heap.size → (j < B ∨ T ≤ j) → w'.heap[j]? = w.heap[j]?
theorem Ins.of_grow {B T : Nat} {w w' : World} {r : Option Nat} (h : w.grownBy w' r) (hr : ∀ j, r = some j → B ≤ j ∧ j < T) : Ins B T w w' :=
  ⟨h.os, h.tape, h.output, h.size, fun j hj ho => h.block j hj (fun e => by have := hr j e.symm; omega)⟩
theorem Ins.trans {B T : Nat} {a b c : World} (h1 : Ins B T a b) (h2 : Ins B T b c) : Ins B T a c :=
  ⟨h2.1.trans h1.1, h2.2.1.trans h1.2.1, h2.2.2.1.trans h1.2.2.1, Nat.le_trans h1.2.2.2.1 h2.2.2.2.1, fun j hj ho => (h2.2.2.2.2 j (Nat.lt_of_lt_of_le hj h1.2.2.2.1) ho).trans (h1.2.2.2.2 j hj ho)⟩
theorem Ins.blk {B T : Nat} {w w' : World} (h : Ins B T w w') {k : Nat} {t : TypeId} {cs : Array Value} (hk : Blk w k t cs) (ho : k < B ∨ T ≤ k) : Blk w' k t cs := (h.2.2.2.2 k (Blk.lt hk) ho).trans hk
theorem Ins.own {B T base n : Nat} {w w' : World} {t : TypeId} {x : Value} {xs : List Value} (h : Ins B T w w') (hx : w.ownsRow base t 1 x n xs) (ho : ∀ j, x.ownBlock = some j → j < B ∨ T ≤ j) : w'.ownsRow base t 1 x n xs := by
  rcases hx with ⟨h1, h2 | ⟨g, cap, cur, rfl, hb, hg, hr⟩⟩
  · exact ⟨h1, Or.inl h2⟩
  · exact ⟨h1, Or.inr ⟨g, cap, cur, rfl, hb, (h.2.2.2.2 g (Array.getElem?_eq_some_iff.1 hg).1 (ho g rfl)).trans hg, hr⟩⟩
theorem Ins.below {B T b : Nat} {a w w' : World} (h : Ins B T w w') (hb : Below b a w) (hB : b ≤ B) (hw : b ≤ w.heap.size) : Below b a w' :=
  ⟨h.1.trans hb.os, h.2.1.trans hb.tape, h.2.2.1.trans hb.output, Nat.le_trans hb.size h.2.2.2.1, fun k hk => (h.2.2.2.2 k (Nat.lt_of_lt_of_le hk hw) (Or.inl (Nat.lt_of_lt_of_le hk hB))).trans (hb.block k hk)⟩
theorem mark_i (w : World) (base n cap : Nat) (A : Option Addr) (k0 : Nat) (cs : List Value) (hn : n ≤ 1048577) (h1 : k0 ≤ 1099511627776) (h : w.ownsRow base 3 1 (.slice A n cap) n cs) :
    Calls Try.prog 26 #[.slice A n cap, .int .i64 (k0 : Int)] w fun e w' => e = .returned (.int .i64 ((k0 + n : Nat) : Int)) ∧ w.grownBy w' (Value.slice A n cap).ownBlock := by
  refine (mark_some w base n _ (k0 : Int) cs hn (by omega) (by omega) h).mono ?_
  rintro e w' ⟨rfl, hg⟩
  exact ⟨by rw [← Int.natCast_add], hg⟩
theorem markAutomaton_in (m : Int) (g1 g2 g3 c1 c2 c3 B T b1 b2 a1 a2 a3 : Nat) (xs ys : List Value) (ss : List StepD) (w : World) (h1 : a1 ≤ 1048577) (h2 : a2 ≤ 1048577) (h3 : a3 ≤ 1048577) (hs : ss.length = a3)
    (hx : w.ownsRow b1 3 1 (.slice (some ⟨g1, 0, none⟩) a1 c1) a1 xs) (hy : w.ownsRow b2 3 1 (.slice (some ⟨g2, 0, none⟩) a2 c2) a2 ys) (hz : SBlk w g3 67 ss) (hB : B ≤ g1) (h12 : g1 < g2) (h23 : g2 < g3) (h3T : g3 < T) (hT : T ≤ w.heap.size) :
    Calls Try.prog 10 #[.agg #[.int .i64 m, .slice (some ⟨g1, 0, none⟩) a1 c1, .slice (some ⟨g2, 0, none⟩) a2 c2, .slice (some ⟨g3, 0, none⟩) a3 c3], .int .i64 1] w fun e w' => e = .returned (.int .i64 ((1 + a1 + a2 + 4 * a3 : Nat) : Int)) ∧ Hid (Ins B T w w') := by
  have X0 := Lib.hid (hx.alloc (.cells #[.int .i64 m, .slice (some ⟨g1, 0, none⟩) a1 c1, .slice (some ⟨g2, 0, none⟩) a2 c2, .slice (some ⟨g3, 0, none⟩) a3 c3] 32))
  have Y0 := Lib.hid (hy.alloc (.cells #[.int .i64 m, .slice (some ⟨g1, 0, none⟩) a1 c1, .slice (some ⟨g2, 0, none⟩) a2 c2, .slice (some ⟨g3, 0, none⟩) a3 c3] 32))
  have Z0 : Hid (SBlk (w.alloc (.cells #[.int .i64 m, .slice (some ⟨g1, 0, none⟩) a1 c1, .slice (some ⟨g2, 0, none⟩) a2 c2, .slice (some ⟨g3, 0, none⟩) a3 c3] 32)) g3 67 ss) := Blk.alloc hz _
  have P0 : Hid (Blk (w.alloc (.cells #[.int .i64 m, .slice (some ⟨g1, 0, none⟩) a1 c1, .slice (some ⟨g2, 0, none⟩) a2 c2, .slice (some ⟨g3, 0, none⟩) a3 c3] 32)) w.heap.size 32 #[.int .i64 m, .slice (some ⟨g1, 0, none⟩) a1 c1, .slice (some ⟨g2, 0, none⟩) a2 c2, .slice (some ⟨g3, 0, none⟩) a3 c3]) := Blk.new _ _ _
  have I0 : Hid (Ins B T w (w.alloc (.cells #[.int .i64 m, .slice (some ⟨g1, 0, none⟩) a1 c1, .slice (some ⟨g2, 0, none⟩) a2 c2, .slice (some ⟨g3, 0, none⟩) a3 c3] 32))) := Ins.of_grow (World.grownBy_alloc w _ none) (fun j hj => by cases hj)
  have HSL := Lib.hid hs
  clear hx hy hz hs
  go_enter Try.func10, Try.ntmps10
  go_wp2_with fail
  refine (mark_i _ _ a1 _ _ 1 _ h1 (by omega) X0.out).mono ?_
  rintro e w1 ⟨rfl, hg1⟩
  have i1 := Ins.of_grow (B := B) (T := T) hg1 (fun j hj => by simp [Value.ownBlock] at hj; omega)
  have I1 := Lib.hid (I0.out.trans i1)
  have P1 := Lib.hid (i1.blk P0.out (by omega))
  have Y1 := Lib.hid (Y0.out.kept hg1 (Or.inr (by intro e; simp [Value.ownBlock] at e; omega)))
  have Z1 : Hid (SBlk w1 g3 67 ss) := (hg1.block g3 (Blk.lt Z0.out) (by intro e; simp [Value.ownBlock] at e; omega)).trans Z0.out
  clear X0 Y0 Z0 P0 I0 hg1 i1
  obtain ⟨p0, p1, p2, p3⟩ := four_cells P1.out
  go_wp2_with fail
  refine (mark_i _ _ a2 _ _ (1 + a1) _ h2 (by omega) Y1.out).mono ?_
  rintro e w2 ⟨rfl, hg2⟩
  have i2 := Ins.of_grow (B := B) (T := T) hg2 (fun j hj => by simp [Value.ownBlock] at hj; omega)
  have I2 := Lib.hid (I1.out.trans i2)
  have P2 := Lib.hid (i2.blk P1.out (by omega))
  have Z2 : Hid (SBlk w2 g3 67 ss) := (hg2.block g3 (Blk.lt Z1.out) (by intro e; simp [Value.ownBlock] at e; omega)).trans Z1.out
  clear Y1 Z1 P1 I1 hg2 i2 p0 p1 p2 p3
  obtain ⟨p0, p1, p2, p3⟩ := four_cells P2.out
  go_wp2_with fail
  refine (markStepS_any g3 (1 + a1 + a2) a3 _ _ ss _ h3 (by omega) (by omega) HSL.out Z2.out).mono ?_
  rintro e w3 ⟨rfl, hz3, hg3⟩
  have I3 := Lib.hid (I2.out.trans (Ins.of_grow (B := B) (T := T) hg3.out (fun j hj => by cases hj; omega)))
  clear Z2 P2 I2 hz3 hg3 p0 p1 p2 p3
  go_wp2_with fail
  go_ret
  exact ⟨rfl, I3⟩
end Go.Proofs.Ytlfffoglldobeaa
