/- The words of at most so many letters in their order, as plain lists, and the program's: a word made by a builder; nothing that was there changes. Condition: at most seven letters. -/
import Derived.Test.YtfdbbopanankgaaDoorBld
import Derived.Test.YtfdbbopanankgaaDoorWordT
namespace Go.Proofs.YtfdbbopanankgaaDoor
open Go.RowKit Go.Shelf
attribute [local go_sem] Oper.semAt_some
set_option maxHeartbeats 4000000
set_option maxRecDepth 100000
set_option linter.unusedVariables false

/-! Plain: the word of k letters that the lowest bits of b tell, the last letter for the lowest bit. -/
def wordL : Nat → Nat → List UInt8
  | 0, _ => []
  | k + 1, b => wordL k (b / 2) ++ [if b % 2 = 1 then 98 else 97]
theorem wordL_len : ∀ (k b : Nat), (wordL k b).length = k
  | 0, _ => rfl
  | k + 1, b => by unfold wordL; rw [List.length_append, wordL_len k]; rfl
theorem wordL_ab : ∀ (k b : Nat), (wordL k b).all isAB = true
  | 0, _ => rfl
  | k + 1, b => by
    unfold wordL
    rw [List.all_append, wordL_ab k, Bool.true_and]
    by_cases h : b % 2 = 1
    · rw [if_pos h]; rfl
    · rw [if_neg h]; rfl
def wordB (k b : Nat) : ByteArray := ⟨(wordL k b).toArray⟩
theorem wordB_size (k b : Nat) : (wordB k b).size = k := by unfold wordB; simp [ByteArray.size, wordL_len]
theorem wordB_ab (k b : Nat) : (wordB k b).data.toList.all isAB = true := by
  have h := wordL_ab k b
  unfold wordB
  simpa using h
/-- The first m words of k letters. -/
def levelW (k m : Nat) : List ByteArray := (List.range m).map (wordB k)
theorem levelW_len (k m : Nat) : (levelW k m).length = m := by unfold levelW; simp
theorem levelW_snoc (k m : Nat) : levelW k (m + 1) = levelW k m ++ [wordB k m] := by unfold levelW; rw [List.range_succ, List.map_append]; rfl
/-- The words of less than k letters. -/
def wordsTo : Nat → List ByteArray
  | 0 => []
  | k + 1 => wordsTo k ++ levelW k (2 ^ k)
theorem wordsTo_succ (k : Nat) : wordsTo (k + 1) = wordsTo k ++ levelW k (2 ^ k) := rfl
theorem wordsTo_len : ∀ k, (wordsTo k).length + 1 = 2 ^ k
  | 0 => rfl
  | k + 1 => by unfold wordsTo; rw [List.length_append, levelW_len, Nat.pow_succ]; have := wordsTo_len k; omega
theorem wordsTo_ok : ∀ k, k ≤ 8 → ∀ s ∈ wordsTo k, s.size ≤ 7 ∧ s.data.toList.all isAB = true
  | 0, _, s, hs => by cases hs
  | k + 1, hk, s, hs => by
    unfold wordsTo at hs
    rcases List.mem_append.1 hs with h | h
    · exact wordsTo_ok k (by omega) s h
    · unfold levelW at h
      obtain ⟨b, _, rfl⟩ := List.mem_map.1 h
      exact ⟨by rw [wordB_size]; omega, wordB_ab k b⟩

theorem bit_step {n a b : Nat} (h : a < n) : wordL (a + 1) (b / 2 ^ (n - (a + 1))) = wordL a (b / 2 ^ (n - a)) ++ [if b / 2 ^ (n - 1 - a) % 2 = 1 then 98 else 97] := by
  have e : n - (a + 1) = n - 1 - a := by omega
  have e2 : n - a = n - 1 - a + 1 := by omega
  rw [e, e2, Nat.pow_succ, ← Nat.div_div_eq_div_mul]
  rfl

theorem low_bit : ∀ c : Fin 128, (bits BinOp.and IntKind.i64 (c.val : Int) 1 == 1) = (c.val % 2 == 1) := by decide
theorem bit_at {b m c : Nat} (hb : b < 128) (hc : c = b / 2 ^ m) : (bits BinOp.and IntKind.i64 ((b : Int) / 2 ^ m) 1 == 1) = (c % 2 == 1) := by
  have e : (b : Int) / 2 ^ m = ((b / 2 ^ m : Nat) : Int) := by rw [Int.natCast_ediv, Int.natCast_pow]; rfl
  have h : c < 128 := by rw [hc]; exact Nat.lt_of_le_of_lt (Nat.div_le_self _ _) hb
  rw [e, ← hc]
  exact low_bit ⟨c, h⟩

theorem wordOf_any (n b : Nat) (w : World) (hn : n ≤ 7) (hb : b < 128) :
    Calls Tryd.prog 30 #[.int .i64 n, .int .i64 b] w fun e w' => e = .returned (.string (wordB n b)) ∧ Below w.heap.size w w' := by
  have h0 : Hid (Lib.IsBuilder 93 5 w.heap.size w.heap.size [] (w.alloc (.cells #[.pointer none, .slice none 0 0] 93))) := Lib.fresh_isBuilder 93 5 w
  have B0 := Lib.hid (below_a1 w (.cells #[.pointer none, .slice none 0 0] 93))
  go_enter Tryd.func30, Tryd.ntmps30
  go_wp2_with fail
  generalize w.alloc (.cells #[.pointer none, .slice none 0 0] 93) = w1 at h0 B0 ⊢
  go_loopw [9] (fun i wr => ∃ k : Nat, k ≤ n ∧ i = .int .i64 k ∧ Hid (Lib.IsBuilder 93 5 w.heap.size w.heap.size (Lib.byteCells (wordL k (b / 2 ^ (n - k)))) wr) ∧ Hid (Below w.heap.size w wr)) (fun i _ => n - (intOf i).toNat)
  case atStart => exact ⟨0, Nat.zero_le _, rfl, h0, B0⟩
  case round =>
    obtain ⟨k, hk, rfl, hI, hbw⟩ := hrel
    by_cases hlt : k < n
    · have hk1 : (k : Int) < (n : Int) := by omega
      obtain ⟨c, hc⟩ : ∃ c, c = b / 2 ^ (n - 1 - k) := ⟨_, rfl⟩
      have hbit := bit_at hb hc
      have hstep := bit_step (n := n) (a := k) (b := b) hlt
      rw [← hc] at hstep
      have hlen : (Lib.byteCells (wordL k (b / 2 ^ (n - k)))).length = k := by rw [Lib.byteCells_length, wordL_len]
      have HW := Lib.hid hstep
      have hB := hbw.out.size
      by_cases hc2 : c % 2 = 1
      · rw [hc2] at hbit
        rw [if_pos hc2] at hstep
        have HS := Lib.hid hstep
        clear HW hc hstep
        go_wp2_with fail
        refine (bld_write w.heap.size w.heap.size _ _ _ hI.out (by rw [hlen]; simp [ByteArray.size]; omega) hB).mono ?_
        rintro e W1 ⟨rfl, h1, b1⟩
        go_wp2_with fail
        go_roundw
        case rel =>
          refine ⟨k + 1, by omega, by go_num, ?_, Lib.hid (hbw.out.trans b1)⟩
          show Lib.IsBuilder _ _ _ _ _ _
          rw [HS.out, Lib.byteCells_append]
          exact Or.inr h1
        case measure => simp [intOf]; omega
      · have hc0 : c % 2 = 0 := by omega
        rw [hc0] at hbit
        rw [if_neg hc2] at hstep
        have HS := Lib.hid hstep
        clear HW hc hstep
        go_wp2_with fail
        refine (bld_write w.heap.size w.heap.size _ _ _ hI.out (by rw [hlen]; simp [ByteArray.size]; omega) hB).mono ?_
        rintro e W1 ⟨rfl, h1, b1⟩
        go_wp2_with fail
        go_roundw
        case rel =>
          refine ⟨k + 1, by omega, by go_num, ?_, Lib.hid (hbw.out.trans b1)⟩
          show Lib.IsBuilder _ _ _ _ _ _
          rw [HS.out, Lib.byteCells_append]
          exact Or.inr h1
        case measure => simp [intOf]; omega
    · have hkn : k = n := by omega
      subst hkn
      go_wp2_with fail
      refine (Tryd.Builder_String_any w.heap.size w.heap.size _ _ hI.out ?_).mono ?_
      · exact hbw.out.size
      rintro e W1 ⟨rfl, b1⟩
      go_wp2_with fail
      go_ret
      exact ⟨rfl, hbw.out.trans b1⟩
end Go.Proofs.YtfdbbopanankgaaDoor
