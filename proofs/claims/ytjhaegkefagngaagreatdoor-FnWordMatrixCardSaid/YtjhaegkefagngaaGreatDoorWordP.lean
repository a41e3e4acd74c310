/- Plain mathematics of words cut in two: the product of a word is that of its two parts, its beginnings have the costs that are told. No condition but that the automaton and the word are valid. -/
import Derived.Test.YtjhaegkefagngaaGreatDoorWordM
import Derived.Test.YtjhaegkefagngaaGreatDoorCostM
import Derived.Test.YtjhaegkefagngaaGreatDoorPrefS
import Derived.Test.YtjhaegkefagngaaGreatDoorAVar
namespace Go.Proofs.YtjhaegkefagngaaGreatDoor
open Go.RowKit
set_option linter.unusedVariables false

theorem prodL_app {n : Nat} {ss : List StepD} (n1 : 1 ≤ n) (n2 : n ≤ 4) (hok : ∀ s ∈ ss, stepOk n s = true) (a b : List UInt8) : prodL n ss (a ++ b) = mulL n (prodL n ss a) (prodL n ss b) :=
  snoc_ind (P := fun b => prodL n ss (a ++ b) = mulL n (prodL n ss a) (prodL n ss b))
    (by rw [List.append_nil]; exact (mulL_unit (prodL_ok n1 n2 hok a)).symm)
    (fun l c h => by
      rw [← List.append_assoc, prodL_snoc, prodL_snoc, h]
      exact mulL_assoc (prodL_ok n1 n2 hok a) (prodL_ok n1 n2 hok l) (stepL_ok n1 n2 hok _)) _ b rfl
theorem ext_drop (l : ByteArray) (k : Nat) : (l.extract k l.size).data.toList = l.data.toList.drop k := by
  rw [ByteArray.data_extract, Array.toList_extract, List.extract_eq_take_drop]
  apply List.take_of_length_le
  simp
theorem word_first {l : ByteArray} (h : wordOk l = true) (k : Nat) : wordOk (l.extract 0 k) = true := by
  obtain ⟨h1, h2⟩ := wordOk_in h
  unfold wordOk
  rw [extract_list, Bool.and_eq_true, decide_eq_true_eq]
  refine ⟨by rw [ByteArray.size_extract]; omega, List.all_eq_true.2 (fun x hx => List.all_eq_true.1 h2 x (List.mem_of_mem_take hx))⟩
theorem word_rest {l : ByteArray} (h : wordOk l = true) (k : Nat) : wordOk (l.extract k l.size) = true := by
  obtain ⟨h1, h2⟩ := wordOk_in h
  unfold wordOk
  rw [ext_drop, Bool.and_eq_true, decide_eq_true_eq]
  refine ⟨by rw [ByteArray.size_extract]; omega, List.all_eq_true.2 (fun x hx => List.all_eq_true.1 h2 x (List.mem_of_mem_drop hx))⟩
theorem begs_at (n : Nat) (xs ys : List Int) (ss : List StepD) (l : List UInt8) {k i : Nat} (h : i < k) : (begs n xs ys ss l k).getD i 0 = costF n xs ys ss (l.take i) := by
  unfold begs
  rw [List.getD_eq_getElem?_getD, List.getElem?_map, List.getElem?_range h]; rfl
/-- What a function leaves that returns a list, put for a walk. -/
def LREnd (vs : List Int) (ok : Bool) (w : World) (e : Ending) (w' : World) : Prop :=
  ∃ (A : Option Addr) (cap : Nat), e = .returned (.tuple #[.slice A vs.length cap, .bool ok]) ∧ Hid (OwnI w' A cap vs) ∧ vs.length ≤ 1048577 ∧ Hid (Below w.heap.size w w')
theorem LEnd.form {r : Option (List Int)} {w w' : World} {e : Ending} {vs : List Int} {ok : Bool} (h : LEnd r w e w') (h2 : r.getD [] = vs) (h3 : r.isSome = ok) : LREnd vs ok w e w' := by
  obtain ⟨x, rfl, ho, hb, hl⟩ := h
  rw [h2] at ho hl
  obtain ⟨A, cap, rfl, _, _⟩ := own_ints ho (by unfold maxLen; omega)
  rw [h3]
  exact ⟨A, cap, rfl, own_base ho (Nat.zero_le _), by omega, hb⟩
section
variable {w : World} {m : Int} {A1 A2 A3 : Option Addr} {c1 c2 c3 : Nat} {xs ys : List Int} {ss : List StepD} {l : ByteArray}
theorem iPref_r (vs : List Int) (ok : Bool) (hll : l.size ≤ maxLen) (h : AR w A1 A2 A3 xs ys ss) (h2 : (prefR m xs ys ss l).getD [] = vs) (h3 : (prefR m xs ys ss l).isSome = ok) :
    Calls Tryz.prog 10 #[.agg #[.int .i64 m, .slice A1 xs.length c1, .slice A2 ys.length c2, .slice A3 ss.length c3], .string l] w fun e w' => LREnd vs ok w e w' :=
  (iPrefix_any m A1 A2 A3 c1 c2 c3 xs ys ss l hll w h.i1 h.i2 h.s3).mono fun e w' h => h.form h2 h3
theorem sPref_r (vs : List Int) (ok : Bool) (hll : l.size ≤ maxLen) (h : AR w A1 A2 A3 xs ys ss) (h2 : (prefR m xs ys ss l).getD [] = vs) (h3 : (prefR m xs ys ss l).isSome = ok) :
    Calls Tryz.prog 11 #[.agg #[.int .i64 m, .slice A1 xs.length c1, .slice A2 ys.length c2, .slice A3 ss.length c3], .string l] w fun e w' => LREnd vs ok w e w' :=
  (sPrefix_any m A1 A2 A3 c1 c2 c3 xs ys ss l hll w h.i1 h.i2 h.s3).mono fun e w' h => h.form h2 h3
theorem wp_shut : True := trivial
end
/-- All that the law of products of words asks for, of a valid automaton and a word. -/
structure WordCut (n : Nat) (xs ys : List Int) (ss : List StepD) (l : ByteArray) (k : Nat) (u v r : List Int) (cs : List Int) (c1 c2 : Int) : Prop where
  first : wordR n xs ys ss (l.extract 0 k) = some ((n : Int), u)
  rest : wordR n xs ys ss (l.extract k l.size) = some ((n : Int), v)
  both : mulR (n : Int) u (n : Int) v = some ((n : Int), r)
  list : prefR n xs ys ss l = some cs
  len : cs.length = l.size + 1
  at1 : cs.getD k 0 = c1
  at2 : cs.getD l.size 0 = c2
  cost1 : costR n xs ys ss (l.extract 0 k) = c1
  cost2 : costR n xs ys ss l = c2
theorem word_cut {n : Nat} {xs ys : List Int} {ss : List StepD} {l : ByteArray} (k : Nat) (hk : k ≤ l.size) (h : autoOk n xs ys ss = true) (hw : wordOk l = true) :
    WordCut n xs ys ss l k (prodL n ss (l.data.toList.take k)) (prodL n ss (l.data.toList.drop k)) (prodL n ss l.data.toList) (begs n xs ys ss l.data.toList (l.size + 1)) (costF n xs ys ss (l.data.toList.take k)) (costF n xs ys ss l.data.toList) := by
  obtain ⟨n', hn, n1, n2, hx, hy, _, hs⟩ := auto_in h
  have e : n = n' := by omega
  subst e
  have hsz : l.data.toList.length = l.size := by simp
  refine ⟨?_, ?_, ?_, prefR_some h hw, begs_len _ _ _ _ _ _, begs_at _ _ _ _ _ (by omega), ?_, ?_, costR_some h hw⟩
  · rw [wordR_some h (word_first hw k), extract_list]
  · rw [wordR_some h (word_rest hw k), ext_drop]
  · unfold mulR; rw [if_pos (by unfold twoOk; rw [matOk_mk (prodL_ok n1 n2 hs _), matOk_mk (prodL_ok n1 n2 hs _)]; simp), Int.toNat_natCast, ← prodL_app n1 n2 hs, List.take_append_drop]
  · rw [begs_at _ _ _ _ _ (by omega), List.take_of_length_le (by omega)]
  · rw [costR_some h (word_first hw k), extract_list]
end Go.Proofs.YtjhaegkefagngaaGreatDoor
