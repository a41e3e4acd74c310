/- A builder of strings that the call has made: its check, and a text written on. Condition: the new length is at most 2^47 bytes. The words of at most so many letters in their order, as plain lists, and the program's: a word made by a builder, the iterator over all words, what it owes a loop; nothing that was there changes. Condition: at most seven letters. -/
import Derived.Test.YtimdknlocfnhoaaShelf
import Derived.Lib.Builder
import Derived.Lib.AppendStr
import Derived.WalkKit
import Derived.Test.YtimdknlocfnhoaaWordT
namespace Go.Proofs.Ytimdknlocfnhoaa
open Go.RowKit
set_option maxHeartbeats 2000000
set_option maxRecDepth 100000
set_option linter.unusedVariables false

theorem size_bld : (Try.prog.info? 91).map (·.size) = some 2 := by kernel_rfl
theorem lies_bld : liesAt Try.prog Try.prog.depth 91 (2 / Try.prog.cellsOf 91) 0 91 1 = true := by kernel_rfl
theorem info_byte : (Try.prog.info? 5).map (fun i => (i.zero, i.size, i.bytes)) = some (some (.int .u8 0), 1, 1) := by kernel_rfl

theorem bld_used (b : Nat) (w : World) (h0 : w.cell? ⟨b, 0, none⟩ = some (.pointer (some ⟨b, 0, none⟩))) :
    Calls Try.prog 58 #[.pointer (some ⟨b, 0, none⟩)] w fun e w' => e = .returned (.tuple #[]) ∧ w' = w := by
  obtain ⟨j, hj, _⟩ := Option.map_eq_some_iff.1 size_bld
  go_enter Try.func58, Try.ntmps58
  go_wp2_with fail
  rw [Lib.run_neq_ptr_same w _ Try.underlying89 hj]
  go_wp2_with fail
  go_end0
  exact ⟨rfl, rfl⟩

theorem bld_fresh (b : Nat) (w : World) (h0 : w.cell? ⟨b, 0, none⟩ = some (.pointer none)) (hsh : w.shape? b = some (91, 2)) (hfz : w.frozen? ⟨b, 0, none⟩ = false) :
    Calls Try.prog 58 #[.pointer (some ⟨b, 0, none⟩)] w fun e w' => e = .returned (.tuple #[]) ∧ w' = w.setCell ⟨b, 0, none⟩ (.pointer (some ⟨b, 0, none⟩)) := by
  obtain ⟨j, hj, hjs⟩ := Option.map_eq_some_iff.1 size_bld
  go_enter Try.func58, Try.ntmps58
  go_wp2_with fail
  rw [Lib.run_to_unsafe w ⟨b, 0, none⟩ Try.underlying89 Try.underlying111 hj (by rw [hjs]; decide) hsh (Nat.zero_lt_succ 1)]
  simp only [Result.andThen]
  rw [Oper.upon_value]
  go_wp2_with fail
  rw [run_callFunc_extern Try.func65 (by kernel_rfl) (by kernel_rfl) (by kernel_rfl) (e := Extern.AbiNoEscape.same) (by kernel_rfl)]
  rw [Lib.run_noEscape]
  simp only [Result.andThen]
  rw [Oper.upon_value]
  go_wp2_with fail
  rw [Lib.run_from_unsafe w ⟨b, 0, none⟩ Try.underlying111 Try.underlying89 hj hsh lies_bld]
  simp only [Result.andThen]
  rw [Oper.upon_value]
  go_wp2_with fail
  go_end0
  exact ⟨rfl, rfl⟩

theorem bld_check (B b : Nat) (bs : List Value) (w : World) (h : Lib.IsBuilder 91 5 B b bs w) :
    Calls Try.prog 58 #[.pointer (some ⟨b, 0, none⟩)] w fun e w' => e = .returned (.tuple #[]) ∧ (Lib.BuilderAt 91 5 B b (.pointer (some ⟨b, 0, none⟩)) bs w' ∧ Below B w w') := by
  rcases h with h | h
  · refine (bld_fresh b w h.cell0 h.shape h.frozen0).mono ?_
    rintro e w' ⟨rfl, rfl⟩
    exact ⟨rfl, h.used _, (Below.refl B w).setCell (p := ⟨b, 0, none⟩) h.1 _⟩
  · refine (bld_used b w h.cell0).mono ?_
    rintro e w' ⟨rfl, rfl⟩
    exact ⟨rfl, h, Below.refl B _⟩

theorem bld_write (B b : Nat) (bs : List Value) (s : ByteArray) (w : World) (h : Lib.IsBuilder 91 5 B b bs w) (hlen : bs.length + s.size ≤ 140737488355328) (hBw : B ≤ w.heap.size) :
    Calls Try.prog 48 #[.pointer (some ⟨b, 0, none⟩), .string s] w fun e w' => e = .returned (.tuple #[.int .i64 s.size, .nilIface]) ∧ (Lib.BuilderAt 91 5 B b (.pointer (some ⟨b, 0, none⟩)) (bs ++ Lib.strCells s) w' ∧ Below B w w') := by
  obtain ⟨i0, hi, hz0, hz1, hz2⟩ := info_parts info_byte
  have hne9 : 91 ≠ 5 := by decide
  go_enter Try.func48, Try.ntmps48
  go_wp2_with fail
  refine (bld_check B b bs _ h).mono ?_
  rintro e w1 ⟨rfl, h1, hb1⟩
  obtain ⟨hB, v, hbk, hown, hne⟩ := h1
  have c0 : w1.cell? ⟨b, 0, none⟩ = some (.pointer (some ⟨b, 0, none⟩)) := by rw [Lib.cell_of_heap hbk]; rfl
  have c1 : w1.cell? ⟨b, 1, none⟩ = some v := by rw [Lib.cell_of_heap hbk]; rfl
  go_wp2_with (first | (at_builtin; refine Lib.wpList_append_own_string _ rfl _ _ 69 9 rfl B 5 i0 Try.underlying69 Try.underlying9 hi hz0 hz1 hz2 _ _ _ rfl hown s rfl ?c3 ?c4 ?c5 ?_) | fail)
  case c3 => unfold maxLen; omega
  case c4 => omega
  case c5 => have := hb1.size; omega
  intro v' w2 hown' hgrow _
  have hlt : b < w1.heap.size := (Array.getElem?_eq_some_iff.1 hbk).1
  have hb2 : w2.heap[b]? = some (.cells #[.pointer (some ⟨b, 0, none⟩), v] 91 (0, 0)) := by
    rw [hgrow.block b hlt (fun e => hne e.symm)]
    exact hbk
  have d0 : w2.cell? ⟨b, 0, none⟩ = some (.pointer (some ⟨b, 0, none⟩)) := by rw [Lib.cell_of_heap hb2]; rfl
  have d1 : w2.cell? ⟨b, 1, none⟩ = some v := by rw [Lib.cell_of_heap hb2]; rfl
  have f1 : w2.frozen? ⟨b, 1, none⟩ = false := Lib.frozen_of_heap hb2 1
  obtain ⟨ao, n', cap, rfl⟩ : ∃ ao n' cap, v' = .slice ao n' cap := by
    rcases hown'.2 with ⟨hv, _⟩ | ⟨g, cap, cur, hv, _⟩
    · exact ⟨_, _, _, hv⟩
    · exact ⟨_, _, _, hv⟩
  go_wp2_with fail
  go_ret2
  refine ⟨rfl, ?_, ?_⟩
  · exact Lib.BuilderAt.put (T := 91) (e := 5) hB hb2 (bs' := bs ++ Lib.strCells s) (by simpa [Lib.strCells_length] using hown') hne9
  · exact (hb1.grown hgrow (by have := hb1.size; omega) (fun k hk => (hown.lt k hk).1)).setCell (p := ⟨b, 1, none⟩) hB _
end Go.Proofs.Ytimdknlocfnhoaa
namespace Go.Proofs.Ytimdknlocfnhoaa
open Go.RowKit Go.Shelf
attribute [local go_sem] Oper.semAt_some
set_option maxHeartbeats 4000000
set_option maxRecDepth 100000
set_option linter.unusedVariables false

/-! Plain: the word of k letters that the lowest bits of b tell, the last letter for the lowest bit. -/
def wordL : Nat → Nat → List UInt8
  | 0, _ => []
  | k + 1, b => wordL k (b / 2) ++ [if b % 2 = 1 then 98 else 97]
theorem wordL_len : ∀ (k b : Nat), (wordL k b).length = k
  | 0, _ => rfl
  | k + 1, b => by unfold wordL; rw [List.length_append, wordL_len k]; rfl
theorem wordL_ab : ∀ (k b : Nat), (wordL k b).all isAB = true
  | 0, _ => rfl
  | k + 1, b => by
    unfold wordL
    rw [List.all_append, wordL_ab k, Bool.true_and]
    by_cases h : b % 2 = 1
    · rw [if_pos h]; rfl
    · rw [if_neg h]; rfl
def wordB (k b : Nat) : ByteArray := ⟨(wordL k b).toArray⟩
theorem wordB_size (k b : Nat) : (wordB k b).size = k := by unfold wordB; simp [ByteArray.size, wordL_len]
theorem wordB_ab (k b : Nat) : (wordB k b).data.toList.all isAB = true := by
  have h := wordL_ab k b
  unfold wordB
  simpa using h
/-- The first m words of k letters. -/
def levelW (k m : Nat) : List ByteArray := (List.range m).map (wordB k)
theorem levelW_len (k m : Nat) : (levelW k m).length = m := by unfold levelW; simp
theorem levelW_snoc (k m : Nat) : levelW k (m + 1) = levelW k m ++ [wordB k m] := by unfold levelW; rw [List.range_succ, List.map_append]; rfl
/-- The words of less than k letters. -/
def wordsTo : Nat → List ByteArray
  | 0 => []
  | k + 1 => wordsTo k ++ levelW k (2 ^ k)
theorem wordsTo_succ (k : Nat) : wordsTo (k + 1) = wordsTo k ++ levelW k (2 ^ k) := rfl
theorem wordsTo_len : ∀ k, (wordsTo k).length + 1 = 2 ^ k
  | 0 => rfl
  | k + 1 => by unfold wordsTo; rw [List.length_append, levelW_len, Nat.pow_succ]; have := wordsTo_len k; omega
theorem wordsTo_ok : ∀ k, k ≤ 8 → ∀ s ∈ wordsTo k, s.size ≤ 7 ∧ s.data.toList.all isAB = true
  | 0, _, s, hs => by cases hs
  | k + 1, hk, s, hs => by
    unfold wordsTo at hs
    rcases List.mem_append.1 hs with h | h
    · exact wordsTo_ok k (by omega) s h
    · unfold levelW at h
      obtain ⟨b, _, rfl⟩ := List.mem_map.1 h
      exact ⟨by rw [wordB_size]; omega, wordB_ab k b⟩

theorem bit_step {n a b : Nat} (h : a < n) : wordL (a + 1) (b / 2 ^ (n - (a + 1))) = wordL a (b / 2 ^ (n - a)) ++ [if b / 2 ^ (n - 1 - a) % 2 = 1 then 98 else 97] := by
  have e : n - (a + 1) = n - 1 - a := by omega
  have e2 : n - a = n - 1 - a + 1 := by omega
  rw [e, e2, Nat.pow_succ, ← Nat.div_div_eq_div_mul]
  rfl

theorem low_bit : ∀ c : Fin 128, (bits BinOp.and IntKind.i64 (c.val : Int) 1 == 1) = (c.val % 2 == 1) := by decide
theorem bit_at {b m c : Nat} (hb : b < 128) (hc : c = b / 2 ^ m) : (bits BinOp.and IntKind.i64 ((b : Int) / 2 ^ m) 1 == 1) = (c % 2 == 1) := by
  have e : (b : Int) / 2 ^ m = ((b / 2 ^ m : Nat) : Int) := by rw [Int.natCast_ediv, Int.natCast_pow]; rfl
  have h : c < 128 := by rw [hc]; exact Nat.lt_of_le_of_lt (Nat.div_le_self _ _) hb
  rw [e, ← hc]
  exact low_bit ⟨c, h⟩

theorem wordOf_any (n b : Nat) (w : World) (hn : n ≤ 7) (hb : b < 128) :
    Calls Try.prog 36 #[.int .i64 n, .int .i64 b] w fun e w' => e = .returned (.string (wordB n b)) ∧ Below w.heap.size w w' := by
  have h0 : Hid (Lib.IsBuilder 91 5 w.heap.size w.heap.size [] (w.alloc (.cells #[.pointer none, .slice none 0 0] 91))) := Lib.fresh_isBuilder 91 5 w
  have B0 := Lib.hid (below_a1 w (.cells #[.pointer none, .slice none 0 0] 91))
  go_enter Try.func36, Try.ntmps36
  go_wp2_with fail
  generalize w.alloc (.cells #[.pointer none, .slice none 0 0] 91) = w1 at h0 B0 ⊢
  go_loopw [9] (fun i wr => ∃ k : Nat, k ≤ n ∧ i = .int .i64 k ∧ Hid (Lib.IsBuilder 91 5 w.heap.size w.heap.size (Lib.byteCells (wordL k (b / 2 ^ (n - k)))) wr) ∧ Hid (Below w.heap.size w wr)) (fun i _ => n - (intOf i).toNat)
  case atStart => exact ⟨0, Nat.zero_le _, rfl, h0, B0⟩
  case round =>
    obtain ⟨k, hk, rfl, hI, hbw⟩ := hrel
    by_cases hlt : k < n
    · have hk1 : (k : Int) < (n : Int) := by omega
      obtain ⟨c, hc⟩ : ∃ c, c = b / 2 ^ (n - 1 - k) := ⟨_, rfl⟩
      have hbit := bit_at hb hc
      have hstep := bit_step (n := n) (a := k) (b := b) hlt
      rw [← hc] at hstep
      have hlen : (Lib.byteCells (wordL k (b / 2 ^ (n - k)))).length = k := by rw [Lib.byteCells_length, wordL_len]
      have HW := Lib.hid hstep
      have hB := hbw.out.size
      by_cases hc2 : c % 2 = 1
      · rw [hc2] at hbit
        rw [if_pos hc2] at hstep
        have HS := Lib.hid hstep
        clear HW hc hstep
        go_wp2_with fail
        refine (bld_write w.heap.size w.heap.size _ _ _ hI.out (by rw [hlen]; simp [ByteArray.size]; omega) hB).mono ?_
        rintro e W1 ⟨rfl, h1, b1⟩
        go_wp2_with fail
        go_roundw
        case rel =>
          refine ⟨k + 1, by omega, by go_num, ?_, Lib.hid (hbw.out.trans b1)⟩
          show Lib.IsBuilder _ _ _ _ _ _
          rw [HS.out, Lib.byteCells_append]
          exact Or.inr h1
        case measure => simp [intOf]; omega
      · have hc0 : c % 2 = 0 := by omega
        rw [hc0] at hbit
        rw [if_neg hc2] at hstep
        have HS := Lib.hid hstep
        clear HW hc hstep
        go_wp2_with fail
        refine (bld_write w.heap.size w.heap.size _ _ _ hI.out (by rw [hlen]; simp [ByteArray.size]; omega) hB).mono ?_
        rintro e W1 ⟨rfl, h1, b1⟩
        go_wp2_with fail
        go_roundw
        case rel =>
          refine ⟨k + 1, by omega, by go_num, ?_, Lib.hid (hbw.out.trans b1)⟩
          show Lib.IsBuilder _ _ _ _ _ _
          rw [HS.out, Lib.byteCells_append]
          exact Or.inr h1
        case measure => simp [intOf]; omega
    · have hkn : k = n := by omega
      subst hkn
      go_wp2_with fail
      refine (Try.Builder_String_any w.heap.size w.heap.size _ _ hI.out ?_).mono ?_
      · exact hbw.out.size
      rintro e W1 ⟨rfl, b1⟩
      go_wp2_with fail
      go_ret
      exact ⟨rfl, hbw.out.trans b1⟩
end Go.Proofs.Ytimdknlocfnhoaa
