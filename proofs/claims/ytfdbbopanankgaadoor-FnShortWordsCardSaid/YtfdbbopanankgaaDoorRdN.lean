/- The model's reading of a number of at most 17 digits: it returns the number and true, or 0 and false; nothing changes. No condition. A text cut at every byte c: the plain pieces, the library's own splitting, and the model's l13Cut: it returns the pieces; nothing that was there changes. Condition: at most 2^20 bytes. The reading of a list of numbers, the model's: what the text reads as, in new memory; nothing that was there changes. Condition: at most 2^20 bytes. -/
import Derived.Test.YtfdbbopanankgaaDoorRows
import Derived.Test.YtfdbbopanankgaaDoorDigits
import Derived.WalkLawsBesides
import Derived.WalkSpells
import Derived.Handy
import Derived.Deep.DeepCutAuto
import Derived.BigQuiet
import Derived.Lib.IndexBytes
import Derived.Test.YtfdbbopanankgaaDoorCopy
import Derived.Lib.SplitLaws
import Derived.Test.YtfdbbopanankgaaDoorOwn
import Derived.Test.YtfdbbopanankgaaDoorPlain
namespace Go.Proofs.YtfdbbopanankgaaDoor
open Go.RowKit
set_option maxHeartbeats 1000000
set_option linter.unusedVariables false

def NumEnd (r : Option Int) (e : Ending) : Prop := e = .returned (.tuple #[.int .i64 (r.getD 0), .bool r.isSome])
theorem NumEnd.bad {r : Option Int} (h : r = none) : NumEnd r (.returned (.tuple #[.int .i64 0, .bool false])) := by rw [h]; rfl
theorem NumEnd.good {r : Option Int} {v : Int} (h : r = some v) : NumEnd r (.returned (.tuple #[.int .i64 v, .bool true])) := by rw [h]; rfl

theorem num_neg (s t : ByteArray) (ht : s.extract 1 s.size = t) (w : World) (hs : s.size ≤ 9223372036854775807) (h1 : 0 < s.size) (h2 : ((s[0].toNat : Int) == 45) = true) :
    Calls Tryd.prog 72 #[.string s] w fun e w' => NumEnd (numBody true t.data.toList) e ∧ w = w' := by
  have htl : t.size ≤ 9223372036854775807 := by rw [← ht, ByteArray.size_extract]; omega
  go_enter Tryd.func72, Tryd.ntmps72
  go_upto_if 15 with (fail)
  go_cut [0] (fun x wx => x = .string t ∧ wx = w)
  case first =>
    go_wp2
    go_meet
    case rel => exact ⟨rfl, rfl⟩
  case rest =>
    obtain ⟨rfl, rfl⟩ := hcut
    clear h2 h1 hs ht
    by_cases c0 : t.size = 0
    · have HE := Lib.hid (numBody_empty (neg := true) c0)
      have c0b : ((t.size : Int) == 0) = true := by rw [beq_iff_eq]; omega
      have HC := Lib.hid c0
      clear c0
      go_wp2
      go_ret2
      exact ⟨NumEnd.bad HE.out, rfl⟩
    · have c0b : ((t.size : Int) == 0) = false := by rw [beq_eq_false_iff_ne]; omega
      have c0' : 0 < t.size := by omega
      by_cases c1 : 17 < t.size
      · have HE := Lib.hid (numBody_long (neg := true) c1)
        have c1' : (17 : Int) < (t.size : Int) := by omega
        go_wp2
        go_ret2
        exact ⟨NumEnd.bad HE.out, rfl⟩
      · have c1' : ¬ (17 : Int) < (t.size : Int) := by omega
        have hb0 : (t[0].toNat : Int) < 256 := by have := t[0].toNat_lt; omega
        by_cases c2 : (t[0].toNat : Int) = 48
        · have HE := Lib.hid (numBody_zero (neg := true) c0' (by omega) c2 (Or.inr rfl))
          have c2b : ((t[0].toNat : Int) == 48) = true := by rw [beq_iff_eq]; exact c2
          clear c2
          by_cases c3 : (1 : Int) < (t.size : Int)
          · go_wp2
            go_ret2
            exact ⟨NumEnd.bad HE.out, rfl⟩
          · go_wp2
            go_ret2
            exact ⟨NumEnd.bad HE.out, rfl⟩
        · have HL := Lib.hid (numBody_loop (neg := true) c0' (by omega) (Or.inl c2))
          have c2b : ((t[0].toNat : Int) == 48) = false := by rw [beq_eq_false_iff_ne]; exact c2
          clear c2
          go_wp2
          go_loop [5, 6] (fun n i => ∃ (k : Nat) (acc : Int), k ≤ t.size ∧ i = .int .i64 k ∧ n = .int .i64 acc ∧ 0 ≤ acc ∧ acc ≤ 100000000000000000 ∧ Hid (acc < ((10 ^ k : Nat) : Int)) ∧ numLoop 0 t.data.toList = numLoop acc (t.data.toList.drop k)) (fun _ i => t.size - (intOf i).toNat)
          case atStart => exact ⟨0, 0, Nat.zero_le _, rfl, rfl, by omega, by omega, by show (0 : Int) < ((10 ^ 0 : Nat) : Int); decide, rfl⟩
          case round =>
            obtain ⟨k, acc, hk, rfl, rfl, h0, h9, hp, hr⟩ := hrel
            have HR := Lib.hid hr
            clear hr
            by_cases hlt : k < t.size
            · have HD := Lib.hid (drop_byte t k hlt)
              have hbk : (t[k].toNat : Int) < 256 := by have := t[k].toNat_lt; omega
              have hbn : (0 : Int) ≤ (t[k].toNat : Int) := by omega
              by_cases hlo : (t[k].toNat : Int) < 48
              · go_wp2
                go_ret2
                exact ⟨NumEnd.bad (by rw [HL.out, HR.out, HD.out, numLoop_bad (isDig_low hlo)]; rfl), rfl⟩
              · by_cases hhi : 57 < (t[k].toNat : Int)
                · go_wp2
                  go_ret2
                  exact ⟨NumEnd.bad (by rw [HL.out, HR.out, HD.out, numLoop_bad (isDig_high hhi)]; rfl), rfl⟩
                · have HG := Lib.hid (isDig_yes (b := t[k]) (by omega) (by omega))
                  have hp' : Hid (acc * 10 + ((t[k].toNat : Int) - 48) < ((10 ^ (k + 1) : Nat) : Int)) := dig_bound hp.out (by omega)
                  have hq : acc * 10 + ((t[k].toNat : Int) - 48) ≤ 100000000000000000 := pow_bound hp'.out (by omega)
                  go_wp2
                  go_round
                  case rel => exact ⟨k + 1, _, by omega, by go_num, rfl, by omega, hq, hp', by rw [HR.out, HD.out, numLoop_on HG.out]⟩
                  case measure => simp [intOf]; omega
            · have HD := Lib.hid (drop_end t k hlt)
              go_wp2
              go_ret2
              exact ⟨NumEnd.good (by rw [HL.out, HR.out, HD.out]; rfl), rfl⟩

theorem num_pos (t : ByteArray) (w : World) (htl : t.size ≤ 9223372036854775807) (h2 : t.size = 0 ∨ ∃ h : 0 < t.size, ((t[0].toNat : Int) == 45) = false) :
    Calls Tryd.prog 72 #[.string t] w fun e w' => NumEnd (numBody false t.data.toList) e ∧ w = w' := by
  rcases h2 with h2 | ⟨hpos, h2⟩
  · have HE := Lib.hid (numBody_empty (neg := false) h2)
    have c0b : ((t.size : Int) == 0) = true := by rw [beq_iff_eq]; omega
    have c0c : ¬ (0 : Int) < (t.size : Int) := by omega
    clear h2
    go_enter Tryd.func72, Tryd.ntmps72
    go_wp2
    go_ret2
    exact ⟨NumEnd.bad HE.out, rfl⟩
  · go_enter Tryd.func72, Tryd.ntmps72
    by_cases c0 : t.size = 0
    · have HE := Lib.hid (numBody_empty (neg := false) c0)
      have c0b : ((t.size : Int) == 0) = true := by rw [beq_iff_eq]; omega
      have HC := Lib.hid c0
      clear c0
      go_wp2
      go_ret2
      exact ⟨NumEnd.bad HE.out, rfl⟩
    · have c0b : ((t.size : Int) == 0) = false := by rw [beq_eq_false_iff_ne]; omega
      have c0' : 0 < t.size := by omega
      by_cases c1 : 17 < t.size
      · have HE := Lib.hid (numBody_long (neg := false) c1)
        have c1' : (17 : Int) < (t.size : Int) := by omega
        go_wp2
        go_ret2
        exact ⟨NumEnd.bad HE.out, rfl⟩
      · have c1' : ¬ (17 : Int) < (t.size : Int) := by omega
        have hb0 : (t[0].toNat : Int) < 256 := by have := t[0].toNat_lt; omega
        by_cases c2 : (t[0].toNat : Int) = 48
        · have c2b : ((t[0].toNat : Int) == 48) = true := by rw [beq_iff_eq]; exact c2
          by_cases c3 : 1 < t.size
          · have HE := Lib.hid (numBody_zero (neg := false) c0' (by omega) c2 (Or.inl c3))
            have c3' : (1 : Int) < (t.size : Int) := by omega
            clear c2
            go_wp2
            go_ret2
            exact ⟨NumEnd.bad HE.out, rfl⟩
          · have HL := Lib.hid (numBody_loop (neg := false) c0' (by omega) (Or.inr ⟨by omega, rfl⟩))
            have c3' : ¬ (1 : Int) < (t.size : Int) := by omega
            clear c2
            go_wp2
            go_loop [5, 6] (fun n i => ∃ (k : Nat) (acc : Int), k ≤ t.size ∧ i = .int .i64 k ∧ n = .int .i64 acc ∧ 0 ≤ acc ∧ acc ≤ 100000000000000000 ∧ Hid (acc < ((10 ^ k : Nat) : Int)) ∧ numLoop 0 t.data.toList = numLoop acc (t.data.toList.drop k)) (fun _ i => t.size - (intOf i).toNat)
            case atStart => exact ⟨0, 0, Nat.zero_le _, rfl, rfl, by omega, by omega, by show (0 : Int) < ((10 ^ 0 : Nat) : Int); decide, rfl⟩
            case round =>
              obtain ⟨k, acc, hk, rfl, rfl, h0, h9, hp, hr⟩ := hrel
              have HR := Lib.hid hr
              clear hr
              by_cases hlt : k < t.size
              · have HD := Lib.hid (drop_byte t k hlt)
                have hbk : (t[k].toNat : Int) < 256 := by have := t[k].toNat_lt; omega
                have hbn : (0 : Int) ≤ (t[k].toNat : Int) := by omega
                by_cases hlo : (t[k].toNat : Int) < 48
                · go_wp2
                  go_ret2
                  exact ⟨NumEnd.bad (by rw [HL.out, HR.out, HD.out, numLoop_bad (isDig_low hlo)]; rfl), rfl⟩
                · by_cases hhi : 57 < (t[k].toNat : Int)
                  · go_wp2
                    go_ret2
                    exact ⟨NumEnd.bad (by rw [HL.out, HR.out, HD.out, numLoop_bad (isDig_high hhi)]; rfl), rfl⟩
                  · have HG := Lib.hid (isDig_yes (b := t[k]) (by omega) (by omega))
                    have hp' : Hid (acc * 10 + ((t[k].toNat : Int) - 48) < ((10 ^ (k + 1) : Nat) : Int)) := dig_bound hp.out (by omega)
                    have hq : acc * 10 + ((t[k].toNat : Int) - 48) ≤ 100000000000000000 := pow_bound hp'.out (by omega)
                    go_wp2
                    go_round
                    case rel => exact ⟨k + 1, _, by omega, by go_num, rfl, by omega, hq, hp', by rw [HR.out, HD.out, numLoop_on HG.out]⟩
                    case measure => simp [intOf]; omega
              · have HD := Lib.hid (drop_end t k hlt)
                go_wp2
                go_ret2
                exact ⟨NumEnd.good (by rw [HL.out, HR.out, HD.out]; rfl), rfl⟩
        · have HL := Lib.hid (numBody_loop (neg := false) c0' (by omega) (Or.inl c2))
          have c2b : ((t[0].toNat : Int) == 48) = false := by rw [beq_eq_false_iff_ne]; exact c2
          clear c2
          go_wp2
          go_loop [5, 6] (fun n i => ∃ (k : Nat) (acc : Int), k ≤ t.size ∧ i = .int .i64 k ∧ n = .int .i64 acc ∧ 0 ≤ acc ∧ acc ≤ 100000000000000000 ∧ Hid (acc < ((10 ^ k : Nat) : Int)) ∧ numLoop 0 t.data.toList = numLoop acc (t.data.toList.drop k)) (fun _ i => t.size - (intOf i).toNat)
          case atStart => exact ⟨0, 0, Nat.zero_le _, rfl, rfl, by omega, by omega, by show (0 : Int) < ((10 ^ 0 : Nat) : Int); decide, rfl⟩
          case round =>
            obtain ⟨k, acc, hk, rfl, rfl, h0, h9, hp, hr⟩ := hrel
            have HR := Lib.hid hr
            clear hr
            by_cases hlt : k < t.size
            · have HD := Lib.hid (drop_byte t k hlt)
              have hbk : (t[k].toNat : Int) < 256 := by have := t[k].toNat_lt; omega
              have hbn : (0 : Int) ≤ (t[k].toNat : Int) := by omega
              by_cases hlo : (t[k].toNat : Int) < 48
              · go_wp2
                go_ret2
                exact ⟨NumEnd.bad (by rw [HL.out, HR.out, HD.out, numLoop_bad (isDig_low hlo)]; rfl), rfl⟩
              · by_cases hhi : 57 < (t[k].toNat : Int)
                · go_wp2
                  go_ret2
                  exact ⟨NumEnd.bad (by rw [HL.out, HR.out, HD.out, numLoop_bad (isDig_high hhi)]; rfl), rfl⟩
                · have HG := Lib.hid (isDig_yes (b := t[k]) (by omega) (by omega))
                  have hp' : Hid (acc * 10 + ((t[k].toNat : Int) - 48) < ((10 ^ (k + 1) : Nat) : Int)) := dig_bound hp.out (by omega)
                  have hq : acc * 10 + ((t[k].toNat : Int) - 48) ≤ 100000000000000000 := pow_bound hp'.out (by omega)
                  go_wp2
                  go_round
                  case rel => exact ⟨k + 1, _, by omega, by go_num, rfl, by omega, hq, hp', by rw [HR.out, HD.out, numLoop_on HG.out]⟩
                  case measure => simp [intOf]; omega
            · have HD := Lib.hid (drop_end t k hlt)
              go_wp2
              go_ret2
              exact ⟨NumEnd.good (by rw [HL.out, HR.out, HD.out]; rfl), rfl⟩

theorem num_any (s : ByteArray) (w : World) (hs : s.size ≤ 9223372036854775807) :
    Calls Tryd.prog 72 #[.string s] w fun e w' => NumEnd (numF s.data.toList) e ∧ w = w' := by
  unfold numF
  by_cases h0 : s.size = 0
  · rw [if_neg (by rw [List.eq_nil_of_length_eq_zero (l := s.data.toList) (by simpa using h0)]; simp)]
    exact num_pos s w hs (.inl h0)
  · have hp : 0 < s.size := by omega
    by_cases h1 : s[0] = 45
    · rw [if_pos (by rw [head_byte s hp, h1])]
      have := num_neg s _ rfl w hs hp (by rw [h1]; rfl)
      rw [Lib.extract_to_end] at this
      exact this
    · rw [if_neg (by rw [head_byte s hp]; simpa using h1)]
      exact num_pos s w hs (.inr ⟨hp, by rw [beq_eq_false_iff_ne]; intro he; exact h1 (byte_eq (by rw [he]; rfl))⟩)

end Go.Proofs.YtfdbbopanankgaaDoor
namespace Go.Proofs.YtfdbbopanankgaaDoor
open Go.RowKit
set_option maxHeartbeats 1000000
set_option linter.unusedVariables false

def headOn (x : List UInt8) : List (List UInt8) → List (List UInt8)
  | [] => [x]
  | p :: ps => (x ++ p) :: ps
/-- The pieces. -/
def cutL (c : UInt8) : List UInt8 → List (List UInt8)
  | [] => [[]]
  | b :: l => if b = c then [] :: cutL c l else headOn [b] (cutL c l)
theorem cutL_ne (c : UInt8) (l : List UInt8) : ¬ cutL c l = [] := by
  cases l with
  | nil => simp [cutL]
  | cons b l =>
    unfold cutL
    split
    · simp
    · cases cutL c l <;> simp [headOn]
theorem headOn_nil {ps : List (List UInt8)} (h : ¬ ps = []) : headOn [] ps = ps := by cases ps <;> simp_all [headOn]
theorem headOn_on (x y : List UInt8) (ps : List (List UInt8)) : headOn x (headOn y ps) = headOn (x ++ y) ps := by cases ps <;> simp [headOn]
theorem cut_hit {c b : UInt8} (l : List UInt8) (h : b = c) : cutL c (b :: l) = [] :: cutL c l := by simp [cutL, h]
theorem cut_miss {c b : UInt8} (l : List UInt8) (h : ¬ b = c) : cutL c (b :: l) = headOn [b] (cutL c l) := by simp [cutL, h]

theorem split_cut (c : UInt8) : ∀ l : List UInt8, Lib.splitK [c] 0 (Lib.count l [c]) l = cutL c l
  | [] => by rw [Lib.count_miss (by simp [Lib.index])]; rfl
  | b :: l => by
    have ih := split_cut c l
    by_cases h : b = c
    · rw [cut_hit l h, ← ih]
      subst h
      rw [Lib.count_cons_eq, Nat.add_comm 1, Lib.splitK]
      have hix : Lib.index (b :: l) [b] = ((0 : Nat) : Int) := by rw [Lib.index]; simp [List.isPrefixOf]
      rw [hix]
      simp
    · rw [cut_miss l h, ← ih, Lib.count_cons_ne _ _ _ h]
      have hp : ([c] : List UInt8).isPrefixOf (b :: l) = false := by simp [List.isPrefixOf]; exact fun e => h e.symm
      have hix : Lib.index (b :: l) [c] = if Lib.index l [c] == -1 then -1 else Lib.index l [c] + 1 := by rw [Lib.index, hp]; simp
      cases hk : Lib.count l [c] with
      | zero => rfl
      | succ k =>
        have hnm : ¬ Lib.index l [c] = -1 := by
          intro hm
          rw [Lib.count_miss hm] at hk; cases hk
        have hix2 : Lib.index (b :: l) [c] = Lib.index l [c] + 1 := by rw [hix, if_neg (by simpa using hnm)]
        have hge : 0 ≤ Lib.index l [c] := by
          have := Lib.index_ge l [c]
          omega
        rw [Lib.splitK, Lib.splitK, if_neg (by rw [hix2, beq_iff_eq]; omega), if_neg (by simpa using hnm), hix2]
        have e1 : (Lib.index l [c] + 1).toNat = (Lib.index l [c]).toNat + 1 := by omega
        rw [e1]
        have e2 : (Lib.index l [c]).toNat + 1 + [c].length = ((Lib.index l [c]).toNat + [c].length) + 1 := by simp
        rw [e2, Nat.add_zero, Nat.add_zero, List.take_succ_cons, List.drop_succ_cons]
        rfl

theorem info_text : (Tryd.prog.info? 9).map (fun i => (i.zero, i.size, i.bytes)) = some (some (.string ByteArray.empty), 1, 16) := by kernel_rfl

/-- What the cutting leaves: the pieces in a row of the call's own. -/
def CutEnd (c : UInt8) (l : List UInt8) (w : World) (e : Ending) (w' : World) : Prop :=
  ∃ (x : Value) (ps : List ByteArray), e = .returned x ∧ ps.map (·.data.toList) = cutL c l ∧ w'.ownsRow w.heap.size 9 1 x ps.length (ps.map Value.string) ∧ Below w.heap.size w w' ∧ ps.length ≤ l.length + 1

theorem str_snoc (ps : List ByteArray) (p : ByteArray) : ps.map Value.string ++ [.string p] = (ps ++ [p]).map Value.string := by simp

/-- Where the loop stands: the pieces ps are done, the next begins at f. -/
def CutAt (c : UInt8) (l : List UInt8) (ps : List ByteArray) (f i : Nat) : Prop :=
  (i ≤ l.length ∧ f ≤ i ∧ cutL c l = ps.map (·.data.toList) ++ headOn ((l.take i).drop f) (cutL c (l.drop i))) ∨ (i = l.length + 1 ∧ cutL c l = ps.map (·.data.toList))

theorem cutAt_miss {c : UInt8} {s : ByteArray} {ps : List ByteArray} {f i : Nat} (h : CutAt c s.data.toList ps f i) (hi : i < s.size) (hc : ¬ s[i] = c) : CutAt c s.data.toList ps f (i + 1) := by
  have hsz : s.data.toList.length = s.size := by simp
  rcases h with ⟨h1, h2, h3⟩ | ⟨h1, _⟩
  · refine .inl ⟨by omega, by omega, ?_⟩
    rw [h3, drop_byte s i hi, cut_miss _ hc, headOn_on, List.take_succ_eq_append_getElem (by omega), List.drop_append_of_le_length (by rw [List.length_take]; omega)]
    rfl
  · omega
theorem cutAt_hit {c : UInt8} {s : ByteArray} {ps : List ByteArray} {f i : Nat} (h : CutAt c s.data.toList ps f i) (hi : i < s.size) (hc : s[i] = c) : CutAt c s.data.toList (ps ++ [s.extract f i]) (i + 1) (i + 1) := by
  have hsz : s.data.toList.length = s.size := by simp
  rcases h with ⟨h1, h2, h3⟩ | ⟨h1, _⟩
  · refine .inl ⟨by omega, Nat.le_refl _, ?_⟩
    rw [h3, drop_byte s i hi, cut_hit _ hc, List.map_append, List.map_cons, List.map_nil, Lib.extract_data]
    have e : (s.data.toList.take (i + 1)).drop (i + 1) = [] := List.drop_of_length_le (by rw [List.length_take]; omega)
    rw [e, headOn_nil (cutL_ne _ _)]
    have e2 : (s.data.toList.drop f).take (i - f) = (s.data.toList.take i).drop f := by rw [List.drop_take]
    simp [headOn, e2]
  · omega
theorem cutAt_end {c : UInt8} {s : ByteArray} {ps : List ByteArray} {f i : Nat} (h : CutAt c s.data.toList ps f i) (hi : i = s.size) : CutAt c s.data.toList (ps ++ [s.extract f i]) (i + 1) (i + 1) := by
  have hsz : s.data.toList.length = s.size := by simp
  rcases h with ⟨h1, h2, h3⟩ | ⟨h1, _⟩
  · refine .inr ⟨by omega, ?_⟩
    have e0 : s.data.toList.drop i = [] := List.drop_of_length_le (by omega)
    have e2 : (s.data.toList.drop f).take (i - f) = (s.data.toList.take i).drop f := by rw [List.drop_take]
    rw [h3, e0, List.map_append, List.map_cons, List.map_nil, Lib.extract_data, e2]
    simp [cutL, headOn]
  · omega
theorem cutAt_le {c : UInt8} {l : List UInt8} {ps : List ByteArray} {f i : Nat} (h : CutAt c l ps f i) (hi : i ≤ l.length) : f ≤ i := by
  rcases h with ⟨_, h2, _⟩ | ⟨h1, _⟩ <;> omega

theorem cut_any (s : ByteArray) (ci : Int) (c : UInt8) (hci : (c.toNat : Int) = ci) (w : World) (hs : s.size ≤ 1048576) :
    Calls Tryd.prog 71 #[.string s, .int .u8 ci] w fun e w' => CutEnd c s.data.toList w e w' := by
  obtain ⟨i0, hi, hz0, hz1, hz2⟩ := info_parts info_text
  have Z0 := Lib.hid hz0
  have Z1 := Lib.hid hz1
  have Z2 := Lib.hid hz2
  have ZI := Lib.hid hi
  have HC := Lib.hid hci
  clear hz0 hz1 hz2 hi hci
  have hsz : s.data.toList.length = s.size := by simp
  have HSZ := Lib.hid hsz
  clear hsz
  go_enter Tryd.func71, Tryd.ntmps71
  go_wp2
  go_loopw [5, 6, 7] (fun x fr i wr => ∃ (k f : Nat) (ps : List ByteArray), k ≤ s.size + 1 ∧ i = .int .i64 k ∧ fr = .int .i64 f ∧ wr.ownsRow w.heap.size 9 1 x ps.length (ps.map Value.string) ∧ Hid (CutAt c s.data.toList ps f k) ∧ ps.length ≤ k ∧ Below w.heap.size w wr) (fun _ _ i _ => s.size + 1 - (intOf i).toNat)
  case atStart => exact ⟨0, 0, [], Nat.zero_le _, rfl, rfl, World.ownsRow_lit _ _ 0 (Nat.le_refl _) (Nat.zero_le _) rfl, .inl ⟨Nat.zero_le _, Nat.le_refl _, by simp [headOn_nil (cutL_ne _ _)]⟩, Nat.le_refl _, (Below.refl _ _).alloc (Nat.le_refl _) _⟩
  case round =>
    obtain ⟨k, f, ps, hk, rfl, rfl, hown, hat, hpl, hb⟩ := hrel
    have HO := Lib.hid hown
    have HB := Lib.hid hb
    clear hown hb
    by_cases hlt : k < s.size
    · have hfk : f ≤ k := cutAt_le hat.out (by rw [HSZ.out]; omega)
      have hbk : (s[k].toNat : Int) < 256 := by have := s[k].toNat_lt; omega
      have hle : (k : Int) ≤ (s.size : Int) := by omega
      have hkb : ((k : Int) == (s.size : Int)) = false := by rw [beq_eq_false_iff_ne]; omega
      by_cases hc : s[k] = c
      · have hcb : ((s[k].toNat : Int) == ci) = true := by rw [beq_iff_eq, ← HC.out, hc]
        have HA := Lib.hid (cutAt_hit hat.out hlt hc)
        clear hc
        go_wp2_with (at_builtin; refine wpList_append_own _ rfl _ _ 32 rfl w.heap.size 9 i0 (.string ByteArray.empty) 1 16 Tryd.underlying32 ZI.out Z0.out Z1.out Z2.out rfl (by decide) _ _ _ rfl (HO.out.alloc _) ⟨wr.heap.size, 0, none⟩ 1 1 [.string (s.extract f k)] rfl rfl ?c1 ?c2 ?c3 ?c4 ?c5 ?_)
        case c1 =>
          intro j u hj
          match j, hj with
          | 0, hj => simp at hj; subst hj; simp [Addr.add]
        case c2 => intro u hu; simp at hu; subst hu; rfl
        case c3 => unfold maxLen; omega
        case c4 => omega
        case c5 => have := HB.out.size; simp; omega
        · intro v' w5 hown' hgrow _
          have hb5 := (HB.out.alloc HB.out.size (.cells #[.string (s.extract f k)] 9)).grown hgrow (by have := HB.out.size; simp; omega) (fun j hj => (HO.out.lt j hj).1)
          rw [str_snoc] at hown'
          have O5 := Lib.hid hown'
          have B5 := Lib.hid hb5
          clear hown' hgrow hb5
          go_wp2
          go_roundw
          case rel => exact ⟨k + 1, k + 1, ps ++ [s.extract f k], by omega, by go_num, by go_num, by rw [List.length_append]; exact O5.out, HA.out, by rw [List.length_append]; simp; omega, B5.out⟩
          case measure => simp [intOf]; omega
      · have hcb : ((s[k].toNat : Int) == ci) = false := by
          rw [beq_eq_false_iff_ne, ← HC.out]
          intro he
          exact hc (byte_eq he)
        have HA := Lib.hid (cutAt_miss hat.out hlt hc)
        clear hc
        go_wp2
        go_roundw
        case rel => exact ⟨k + 1, f, ps, by omega, by go_num, rfl, HO.out, HA.out, by omega, HB.out⟩
        case measure => simp [intOf]; omega
    · by_cases hke : k = s.size
      · have hfk : f ≤ k := cutAt_le hat.out (by rw [HSZ.out]; omega)
        have hle : (k : Int) ≤ (s.size : Int) := by omega
        have hkb : ((k : Int) == (s.size : Int)) = true := by rw [beq_iff_eq]; omega
        have HA := Lib.hid (cutAt_end hat.out hke)
        have HK := Lib.hid hke
        clear hke
        go_wp2_with (at_builtin; refine wpList_append_own _ rfl _ _ 32 rfl w.heap.size 9 i0 (.string ByteArray.empty) 1 16 Tryd.underlying32 ZI.out Z0.out Z1.out Z2.out rfl (by decide) _ _ _ rfl (HO.out.alloc _) ⟨wr.heap.size, 0, none⟩ 1 1 [.string (s.extract f k)] rfl rfl ?c1 ?c2 ?c3 ?c4 ?c5 ?_)
        case c1 =>
          intro j u hj
          match j, hj with
          | 0, hj => simp at hj; subst hj; simp [Addr.add]
        case c2 => intro u hu; simp at hu; subst hu; rfl
        case c3 => unfold maxLen; omega
        case c4 => omega
        case c5 => have := HB.out.size; simp; omega
        · intro v' w5 hown' hgrow _
          have hb5 := (HB.out.alloc HB.out.size (.cells #[.string (s.extract f k)] 9)).grown hgrow (by have := HB.out.size; simp; omega) (fun j hj => (HO.out.lt j hj).1)
          rw [str_snoc] at hown'
          have O5 := Lib.hid hown'
          have B5 := Lib.hid hb5
          clear hown' hgrow hb5
          go_wp2
          go_roundw
          case rel => exact ⟨k + 1, k + 1, ps ++ [s.extract f k], by omega, by go_num, by go_num, by rw [List.length_append]; exact O5.out, HA.out, by rw [List.length_append]; simp; omega, B5.out⟩
          case measure => simp [intOf]; omega
      · have hgt : ¬ (k : Int) ≤ (s.size : Int) := by omega
        have HK := Lib.hid (show k = s.size + 1 by omega)
        clear hke
        go_wp2
        go_ret
        refine ⟨_, ps, rfl, ?_, HO.out, HB.out, by rw [HSZ.out]; omega⟩
        rcases hat.out with ⟨h1, _, _⟩ | ⟨_, h2⟩
        · have h3 := HSZ.out; have h4 := HK.out; omega
        · exact h2.symm

end Go.Proofs.YtfdbbopanankgaaDoor
namespace Go.Proofs.YtfdbbopanankgaaDoor
open Go.RowKit
set_option maxHeartbeats 1000000
set_option maxRecDepth 100000
set_option linter.unusedVariables false

def qF : List (List UInt8) → Option (List Int)
  | [] => some []
  | p :: ps => match numF p with
    | none => none
    | some v => (qF ps).map (v :: ·)
theorem qF_bad {p : List UInt8} (ps : List (List UInt8)) (h : numF p = none) : qF (p :: ps) = none := by simp [qF, h]
theorem qF_good {p : List UInt8} {v : Int} (ps : List (List UInt8)) (h : numF p = some v) : qF (p :: ps) = (qF ps).map (v :: ·) := by simp [qF, h]
/-- What the text of a list of costs reads as. -/
def readsN (l : List UInt8) : Option (List Int) := if l = [] then some [] else qF (cutL 32 l)
theorem readsN_nil : readsN [] = some [] := rfl
theorem readsN_ne {l : List UInt8} (h : ¬ l = []) : readsN l = qF (cutL 32 l) := by unfold readsN; rw [if_neg h]

theorem pieceN_len (c : UInt8) : ∀ (l : List UInt8), ∀ p ∈ cutL c l, p.length ≤ l.length
  | [], p, hp => by simp [cutL] at hp; subst hp; simp
  | b :: l, p, hp => by
    have ih := pieceN_len c l
    by_cases h : b = c
    · rw [cut_hit l h] at hp
      rcases List.mem_cons.1 hp with rfl | hp
      · simp
      · have := ih p hp; simp; omega
    · rw [cut_miss l h] at hp
      cases hc : cutL c l with
      | nil => exact absurd hc (cutL_ne c l)
      | cons q qs =>
        rw [hc] at hp ih
        simp only [headOn] at hp
        rcases List.mem_cons.1 hp with rfl | hp
        · have := ih q (by simp); simp; omega
        · have := ih p (by simp [hp]); simp; omega
theorem pieceNs_few (c : UInt8) : ∀ (l : List UInt8), (cutL c l).length ≤ l.length + 1
  | [] => by simp [cutL]
  | b :: l => by
    have ih := pieceNs_few c l
    by_cases h : b = c
    · rw [cut_hit l h]; simp; omega
    · rw [cut_miss l h]
      cases hc : cutL c l with
      | nil => simp [headOn]
      | cons q qs => rw [hc] at ih; simp [headOn] at ih ⊢; omega
theorem qF_len : ∀ (ps : List (List UInt8)) (vs : List Int), qF ps = some vs → vs.length = ps.length
  | [], vs, h => by simp [qF] at h; subst h; rfl
  | p :: ps, vs, h => by
    cases hr : numF p with
    | none => rw [qF_bad ps hr] at h; cases h
    | some v =>
      rw [qF_good ps hr] at h
      cases hp : qF ps with
      | none => rw [hp] at h; cases h
      | some us =>
        rw [hp] at h
        simp at h
        subst h
        have := qF_len ps us hp
        simp; omega

/-- What a reading of a list leaves: its numbers (none where there are none such) in a row of the call's own, and whether there are such. -/
def QEnd (r : Option (List Int)) (w : World) (e : Ending) (w' : World) : Prop :=
  ∃ x, e = .returned (.tuple #[x, .bool r.isSome]) ∧ w'.ownsRow w.heap.size 3 1 x (r.getD []).length ((r.getD []).map (Value.int .i64)) ∧ Below w.heap.size w w' ∧ (r.getD []).length ≤ 1048577
theorem QEnd.bad {r : Option (List Int)} {w w' : World} {x : Value} (hr : r = none) (ho : w'.ownsRow w.heap.size 3 1 x 0 []) (hb : Below w.heap.size w w') : QEnd r w (.returned (.tuple #[x, .bool false])) w' := by
  subst hr; exact ⟨x, rfl, ho, hb, Nat.zero_le _⟩
theorem QEnd.good {r : Option (List Int)} {w w' : World} {x : Value} {vs : List Int} (hr : r = some vs) (ho : w'.ownsRow w.heap.size 3 1 x vs.length (vs.map (Value.int .i64))) (hb : Below w.heap.size w w') (hl : vs.length ≤ 1048577) : QEnd r w (.returned (.tuple #[x, .bool true])) w' := by
  subst hr; exact ⟨x, rfl, ho, hb, hl⟩

/-- A row of strings of the call's own. -/
theorem own_strsN {w : World} {base : Nat} {t : TypeId} {x : Value} {ps : List ByteArray} (h : w.ownsRow base t 1 x ps.length (ps.map Value.string)) (hne : 0 < ps.length) :
    ∃ g cap cur, x = .slice (some ⟨g, 0, none⟩) ps.length cap ∧ g < w.heap.size ∧ w.heap[g]? = some (.cells cur t (0, 0)) ∧ ∀ k (hk : k < ps.length), w.cell? ⟨g, k, none⟩ = some (.string ps[k]) := by
  rcases h.2 with ⟨_, hx⟩ | ⟨g, cap, cur, hv, hb, hg, hnc, hcm, hcs, htake⟩
  · have : ps = [] := by simpa using hx
    subst this; simp at hne
  · subst hv
    refine ⟨g, cap, cur, rfl, (h.lt g rfl).2, hg, fun k hk => ?_⟩
    rw [h.cellAt k (by omega), List.getElem?_map, List.getElem?_eq_getElem hk]; rfl

/-- The piece at k. -/
theorem pieceN_at {c : UInt8} {l : List UInt8} {ps : List ByteArray} (h : ps.map (·.data.toList) = cutL c l) {k : Nat} (hk : k < ps.length) :
    (cutL c l).drop k = ps[k].data.toList :: (cutL c l).drop (k + 1) ∧ ps[k].size ≤ l.length := by
  have hl : (cutL c l).length = ps.length := by rw [← h]; simp
  have he : (cutL c l)[k]'(by omega) = ps[k].data.toList := by simp [← h]
  refine ⟨by rw [List.drop_eq_getElem_cons (by omega), he], ?_⟩
  have := pieceN_len c l ((cutL c l)[k]'(by omega)) (List.getElem_mem _)
  rw [he] at this
  simpa using this
theorem qF_step {Q : List (List UInt8)} {vs : List Int} {p : List UInt8} {v : Int} {k : Nat} {r : Option (List Int)} (h : r = (qF (Q.drop k)).map (vs ++ ·)) (hd : Q.drop k = p :: Q.drop (k + 1)) (hp : numF p = some v) : r = (qF (Q.drop (k + 1))).map ((vs ++ [v]) ++ ·) := by
  rw [h, hd, qF_good _ hp, Option.map_map]
  congr 1
  funext u
  simp
theorem qF_stop {Q : List (List UInt8)} {vs : List Int} {p : List UInt8} {k : Nat} {r : Option (List Int)} (h : r = (qF (Q.drop k)).map (vs ++ ·)) (hd : Q.drop k = p :: Q.drop (k + 1)) (hp : numF p = none) : r = none := by
  rw [h, hd, qF_bad _ hp]; rfl
theorem qF_done {Q : List (List UInt8)} {vs : List Int} {k : Nat} {r : Option (List Int)} (h : r = (qF (Q.drop k)).map (vs ++ ·)) (hk : Q.length ≤ k) : r = some vs := by
  rw [h, List.drop_of_length_le hk]; simp [qF]

theorem sReadN_any (s : ByteArray) (w : World) (hs : s.size ≤ 1048576) :
    Calls Tryd.prog 73 #[.string s] w fun e w' => QEnd (readsN s.data.toList) w e w' := by
  by_cases hnil : s.data.toList = []
  · have hne : s.toList.isEmpty = true := by rw [ByteArray.toList_eq, hnil]; rfl
    have HE : Hid (readsN s.data.toList = some []) := by show _ = _; rw [hnil]; rfl
    clear hnil
    go_enter Tryd.func73, Tryd.ntmps73
    go_wp2
    go_ret2
    exact QEnd.good HE.out (World.ownsRow_lit _ _ 0 (Nat.le_refl _) (Nat.zero_le _) rfl) ((Below.refl _ _).alloc (Nat.le_refl _) _) (Nat.zero_le _)
  · have hne : s.toList.isEmpty = false := by rw [ByteArray.toList_eq]; simpa using hnil
    have HR := Lib.hid (readsN_ne hnil)
    clear hnil
    obtain ⟨i0, hi, hz0, hz1, hz2⟩ := info_parts info_int
    have Z0 := Lib.hid hz0
    have Z1 := Lib.hid hz1
    have Z2 := Lib.hid hz2
    have ZI := Lib.hid hi
    have hsz : s.data.toList.length = s.size := by simp
    have HSZ := Lib.hid hsz
    clear hz0 hz1 hz2 hi hsz
    go_enter Tryd.func73, Tryd.ntmps73
    go_wp2_with fail
    refine (cut_any s 32 32 rfl _ hs).mono ?_
    rintro e w1 ⟨x, ps, rfl, hps, hown, hb1, hfew⟩
    have hpos : 0 < ps.length := by
      have h1 : ps.length = (cutL 32 s.data.toList).length := by rw [← hps]; simp
      have h2 : ¬ (cutL 32 s.data.toList).length = 0 := fun h0 => cutL_ne 32 s.data.toList (List.eq_nil_of_length_eq_zero h0)
      omega
    obtain ⟨g, cap, cur, rfl, hg, hblk, hcells⟩ := own_strsN hown hpos
    have HK := Lib.hid hblk
    have HP := Lib.hid hps
    have HC := Lib.hid hcells
    have HF := Lib.hid hfew
    have hn1 : ps.length ≤ 1048577 := by have := HSZ.out; omega
    have hbA : Below w.heap.size w w1 := ((Below.refl _ _).alloc (Nat.le_refl _) (.cells #[] 3)).trans (hb1.mono (by simp))
    have hO : w1.ownsRow w.heap.size 3 1 (.slice (some ⟨w.heap.size, 0, none⟩) 0 0) 0 [] := own_under (World.ownsRow_lit w #[] 0 (Nat.le_refl _) (Nat.zero_le _) rfl) hb1
    have HB := Lib.hid hbA
    have HO := Lib.hid hO
    clear hps hown hcells hfew hb1 hbA hO hblk
    obtain ⟨n, hn⟩ : ∃ n, n = ps.length := ⟨_, rfl⟩
    have HN := Lib.hid hn
    rw [← hn] at hpos hn1
    rw [← hn]
    clear hn
    go_wp2_with fail
    go_loopw [4, 16] (fun x i wr => ∃ (k : Nat) (vs : List Int), k ≤ n ∧ i = .int .i64 k ∧ vs.length = k ∧ wr.ownsRow w.heap.size 3 1 x vs.length (vs.map (Value.int .i64)) ∧ Hid (readsN s.data.toList = (qF ((cutL 32 s.data.toList).drop k)).map (vs ++ ·)) ∧ Hid (Below w.heap.size w wr) ∧ Hid (wr.heap[g]? = w1.heap[g]?)) (fun _ i _ => n - (intOf i).toNat)
    case atStart => exact ⟨0, [], Nat.zero_le _, rfl, rfl, HO.out, by show _ = _; rw [HR.out]; simp, HB.out, rfl⟩
    case round =>
      obtain ⟨k, vs, hk, rfl, hlen, hown, hp, hbw, hgk⟩ := hrel
      have HO2 := Lib.hid hown
      have HL := Lib.hid hlen
      clear hown hlen
      by_cases hlt : k < n
      · have hlt' : k < ps.length := by rw [← HN.out]; exact hlt
        have hc := (World.cell?_of_block (a := ⟨g, k, none⟩) hgk.out).trans (HC.out k hlt')
        obtain ⟨hd, hps⟩ := pieceN_at HP.out hlt'
        obtain ⟨p, hpe⟩ : ∃ p, p = ps[k] := ⟨_, rfl⟩
        rw [← hpe] at hc hd hps
        have hp63 : p.size ≤ 9223372036854775807 := by have := HSZ.out; omega
        have HD := Lib.hid hd
        clear hd hpe hps
        rcases hr : numF p.data.toList with _ | v
        · have HV := Lib.hid hr
          have HE := Lib.hid (qF_stop hp.out HD.out hr)
          clear hr
          go_wp2_with fail
          have hnum := num_any p wr hp63
          rw [HV.out] at hnum
          refine hnum.mono ?_
          rintro e w' ⟨rfl, rfl⟩
          simp only [Option.isSome_none, Option.getD_none]
          go_wp2_with fail
          go_ret2
          exact QEnd.bad HE.out (World.ownsRow_lit _ _ 0 hbw.out.size (Nat.zero_le _) rfl) (hbw.out.alloc hbw.out.size _)
        · have HV := Lib.hid hr
          have HE := Lib.hid (qF_step hp.out HD.out hr)
          clear hr
          go_wp2_with fail
          have hnum := num_any p wr hp63
          rw [HV.out] at hnum
          refine hnum.mono ?_
          rintro e w' ⟨rfl, rfl⟩
          simp only [Option.isSome_some, Option.getD_some]
          go_wp2_with (at_builtin; refine wpList_append_own _ rfl _ _ 23 rfl w.heap.size 3 i0 (.int .i64 0) 1 8 Tryd.underlying23 ZI.out Z0.out Z1.out Z2.out rfl (by decide) _ _ _ rfl (HO2.out.alloc _) ⟨wr.heap.size, 0, none⟩ 1 1 [.int .i64 v] rfl rfl ?c1 ?c2 ?c3 ?c4 ?c5 ?_)
          case c1 =>
            intro j u hj
            match j, hj with
            | 0, hj => simp at hj; subst hj; simp [Addr.add]
          case c2 => intro u hu; simp at hu; subst hu; rfl
          case c3 => have := HL.out; unfold maxLen; omega
          case c4 => have := HL.out; omega
          case c5 => have := hbw.out.size; simp; omega
          · intro v' w5 hown' hgrow _
            have hb5 := (hbw.out.alloc hbw.out.size (.cells #[.int .i64 v] 3)).grown hgrow (by have := hbw.out.size; simp; omega) (fun j hj => (HO2.out.lt j hj).1)
            have hgw : g < wr.heap.size := lt_of_cell? hc
            have hb6 : w5.heap[g]? = w1.heap[g]? := (hgrow.block g (by simp; omega) (own_other HO2.out (hgk.out.trans HK.out) (by decide))).trans ((Below.heap_alloc _ _ _ hgw).trans hgk.out)
            rw [int_snoc] at hown'
            have O5 := Lib.hid hown'
            have B5 := Lib.hid hb5
            have B6 := Lib.hid hb6
            clear hown' hgrow hb5 hb6
            go_wp2
            go_roundw
            case rel => exact ⟨k + 1, vs ++ [v], by omega, by go_num, by rw [List.length_append, HL.out]; rfl, by rw [List.length_append]; exact O5.out, HE.out, B5.out, B6.out⟩
            case measure => simp [intOf]; omega
      · have HE := Lib.hid (qF_done hp.out (by have h1 : (cutL 32 s.data.toList).length = ps.length := by rw [← HP.out]; simp
                                               have := HN.out; omega))
        go_wp2
        go_ret2
        exact QEnd.good HE.out HO2.out hbw.out (by have := HL.out; omega)

end Go.Proofs.YtfdbbopanankgaaDoor
