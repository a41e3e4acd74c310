/- Plain mathematics of numbers in texts: no condition. The model's decimal text of a number from 0 to 10^18: its digits; nothing that was there changes. -/
import Derived.Test.YtfdbbopanankgaaDoorPlain
import Derived.Test.YtfdbbopanankgaaDoorCostA
import Derived.Lib.ItoaNum
import Derived.Laws.BytesString
import Derived.WalkLawsBesides
import Derived.WalkSpells
namespace Go.Proofs.YtfdbbopanankgaaDoor
open Go.RowKit

def isDig (b : UInt8) : Bool := decide (48 ≤ (b.toNat : Int) ∧ (b.toNat : Int) ≤ 57)
theorem isDig_yes {b : UInt8} (h : 48 ≤ (b.toNat : Int)) (h' : (b.toNat : Int) ≤ 57) : isDig b = true := by simp [isDig]; omega
theorem isDig_low {b : UInt8} (h : (b.toNat : Int) < 48) : isDig b = false := by simp [isDig]; omega
theorem isDig_high {b : UInt8} (h : 57 < (b.toNat : Int)) : isDig b = false := by simp [isDig]; omega

/-- The digits of a cost, the program's way: none where a byte is no digit or the number is too great. -/
def readLoop : Int → List UInt8 → Option Int
  | acc, [] => some acc
  | acc, b :: r => if isDig b = true then (if 1000000 ≤ acc * 10 + ((b.toNat : Int) - 48) then none else readLoop (acc * 10 + ((b.toNat : Int) - 48)) r) else none
/-- The digits of a number, the model's way. -/
def numLoop : Int → List UInt8 → Option Int
  | acc, [] => some acc
  | acc, b :: r => if isDig b = true then numLoop (acc * 10 + ((b.toNat : Int) - 48)) r else none

theorem readLoop_bad {acc : Int} {b : UInt8} {r : List UInt8} (h : isDig b = false) : readLoop acc (b :: r) = none := by simp [readLoop, h]
theorem readLoop_big {acc : Int} {b : UInt8} {r : List UInt8} (h : isDig b = true) (h' : 1000000 ≤ acc * 10 + ((b.toNat : Int) - 48)) : readLoop acc (b :: r) = none := by simp [readLoop, h, h']
theorem readLoop_on {acc : Int} {b : UInt8} {r : List UInt8} (h : isDig b = true) (h' : ¬ 1000000 ≤ acc * 10 + ((b.toNat : Int) - 48)) : readLoop acc (b :: r) = readLoop (acc * 10 + ((b.toNat : Int) - 48)) r := by simp only [readLoop, h, if_true]; rw [if_neg h']
theorem numLoop_bad {acc : Int} {b : UInt8} {r : List UInt8} (h : isDig b = false) : numLoop acc (b :: r) = none := by simp [numLoop, h]
theorem numLoop_on {acc : Int} {b : UInt8} {r : List UInt8} (h : isDig b = true) : numLoop acc (b :: r) = numLoop (acc * 10 + ((b.toNat : Int) - 48)) r := by simp [numLoop, h]

theorem drop_byte (s : ByteArray) (k : Nat) (h : k < s.size) : s.data.toList.drop k = s[k] :: s.data.toList.drop (k + 1) := by
  rw [List.drop_eq_getElem_cons (by simpa using h)]; rfl
theorem drop_end (s : ByteArray) (k : Nat) (h : ¬ k < s.size) : s.data.toList.drop k = [] := List.drop_of_length_le (by simp; omega)


def numBody (neg : Bool) (t : List UInt8) : Option Int :=
  if t = [] ∨ 17 < t.length then none else if t.head? = some 48 ∧ (1 < t.length ∨ neg = true) then none else (numLoop 0 t).map (fun n => if neg = true then -n else n)
/-- What the text of a number reads as. -/
def numF (l : List UInt8) : Option Int := if l.head? = some 45 then numBody true (l.drop 1) else numBody false l

theorem numBody_empty {neg : Bool} {t : ByteArray} (h : t.size = 0) : numBody neg t.data.toList = none := by
  unfold numBody; rw [if_pos (Or.inl (List.eq_nil_of_length_eq_zero (by simpa using h)))]
theorem numBody_long {neg : Bool} {t : ByteArray} (h : 17 < t.size) : numBody neg t.data.toList = none := by
  unfold numBody; rw [if_pos (Or.inr (by simpa using h))]
theorem head_byte (t : ByteArray) (h : 0 < t.size) : t.data.toList.head? = some t[0] := by
  rw [List.head?_eq_getElem?, List.getElem?_eq_getElem (by simpa using h)]; rfl
theorem ne_nil (t : ByteArray) (h : 0 < t.size) : ¬ t.data.toList = [] := by
  intro he
  have hl : t.data.toList.length = t.size := by simp
  rw [he, List.length_nil] at hl
  omega
theorem byte_eq {b c : UInt8} (h : (b.toNat : Int) = (c.toNat : Int)) : b = c := UInt8.toNat_inj.1 (by omega)
theorem numBody_zero {neg : Bool} {t : ByteArray} (h : 0 < t.size) (hl : t.size ≤ 17) (h0 : (t[0].toNat : Int) = 48) (h1 : 1 < t.size ∨ neg = true) : numBody neg t.data.toList = none := by
  have e : t[0] = 48 := byte_eq (by rw [h0]; rfl)
  unfold numBody
  rw [if_neg (by simp only [not_or]; exact ⟨ne_nil t h, by simp; omega⟩), if_pos ⟨by rw [head_byte t h, e], by simpa using h1⟩]
theorem numBody_loop {neg : Bool} {t : ByteArray} (h : 0 < t.size) (hl : t.size ≤ 17) (h1 : ¬ (t[0].toNat : Int) = 48 ∨ (t.size ≤ 1 ∧ neg = false)) : numBody neg t.data.toList = (numLoop 0 t.data.toList).map (fun n => if neg = true then -n else n) := by
  unfold numBody
  rw [if_neg (by simp only [not_or]; exact ⟨ne_nil t h, by simp; omega⟩), if_neg]
  rintro ⟨hh, hq⟩
  rw [head_byte t h] at hh
  rcases h1 with h1 | ⟨h1, h2⟩
  · exact h1 (by rw [Option.some.inj hh]; rfl)
  · rcases hq with hq | hq
    · simp at hq; omega
    · rw [h2] at hq; cases hq

theorem dig_bound {acc : Int} {b : UInt8} {k : Nat} (h : acc < ((10 ^ k : Nat) : Int)) (hb : (b.toNat : Int) ≤ 57) : acc * 10 + ((b.toNat : Int) - 48) < ((10 ^ (k + 1) : Nat) : Int) := by
  rw [Nat.pow_succ]; omega
theorem pow_bound {acc : Int} {k : Nat} (h : acc < ((10 ^ k : Nat) : Int)) (hk : k ≤ 17) : acc ≤ 100000000000000000 := by
  have h1 : 10 ^ k ≤ 10 ^ 17 := Nat.pow_le_pow_right (by omega) hk
  have h2 : (10 : Nat) ^ 17 = 100000000000000000 := by decide
  rw [h2] at h1
  generalize 10 ^ k = q at h h1
  omega


/-- What the text of a cost reads as. -/
def readF (l : List UInt8) : Option Int := if l = [45] then some 1000000 else if l = [] then none else if 1 < l.length ∧ l.head? = some 48 then none else readLoop 0 l
/-- .. the model's way. -/
def sreadF (l : List UInt8) : Option Int := if l = [45] then some 1000000 else (numF l).bind fun n => if 0 ≤ n ∧ n ≤ 999999 then some n else none

theorem isDig_in {b : UInt8} (h : isDig b = true) : 48 ≤ (b.toNat : Int) ∧ (b.toNat : Int) ≤ 57 := by simpa [isDig] using h
theorem isDig_cases (b : UInt8) : isDig b = true ∨ isDig b = false := by cases isDig b <;> simp

theorem numLoop_ge (l : List UInt8) : ∀ acc n, 0 ≤ acc → numLoop acc l = some n → acc ≤ n := by
  induction l with
  | nil => intro acc n _ h; simp [numLoop] at h; omega
  | cons b r ih =>
    intro acc n h0 h
    rcases isDig_cases b with hb | hb
    · have := isDig_in hb
      rw [numLoop_on hb] at h
      have := ih _ _ (by omega) h
      omega
    · rw [numLoop_bad hb] at h; cases h
theorem read_num (l : List UInt8) : ∀ acc, 0 ≤ acc → acc < 1000000 → readLoop acc l = (numLoop acc l).bind fun n => if 0 ≤ n ∧ n ≤ 999999 then some n else none := by
  induction l with
  | nil => intro acc h0 h1; simp only [readLoop, numLoop, Option.bind_some]; rw [if_pos (by omega)]
  | cons b r ih =>
    intro acc h0 h1
    rcases isDig_cases b with hb | hb
    · have hd := isDig_in hb
      rw [numLoop_on hb]
      by_cases hbig : 1000000 ≤ acc * 10 + ((b.toNat : Int) - 48)
      · rw [readLoop_big hb hbig]
        cases hn : numLoop (acc * 10 + ((b.toNat : Int) - 48)) r with
        | none => rfl
        | some n =>
          have := numLoop_ge r _ _ (by omega) hn
          simp only [Option.bind_some]
          rw [if_neg (by omega)]
      · rw [readLoop_on hb hbig, ih _ (by omega) (by omega)]
    · rw [readLoop_bad hb, numLoop_bad hb]; rfl

theorem long_base (acc : Int) (r : List UInt8) (h : 1000000 ≤ acc * 10) (hl : 1 ≤ r.length) : readLoop acc r = none := by
  cases r with
  | nil => simp at hl
  | cons b r =>
    rcases isDig_cases b with hb | hb
    · have := isDig_in hb
      exact readLoop_big hb (by omega)
    · exact readLoop_bad hb
theorem long_step {T : Int} {m : Nat} (h : ∀ (acc : Int) (r : List UInt8), T ≤ acc → m ≤ r.length → readLoop acc r = none) (acc : Int) (r : List UInt8) (ha : T ≤ acc * 10) (hl : m + 1 ≤ r.length) : readLoop acc r = none := by
  cases r with
  | nil => simp at hl
  | cons b r =>
    rcases isDig_cases b with hb | hb
    · have := isDig_in hb
      by_cases hbig : 1000000 ≤ acc * 10 + ((b.toNat : Int) - 48)
      · exact readLoop_big hb hbig
      · rw [readLoop_on hb hbig]; exact h _ _ (by omega) (by simp at hl; omega)
    · exact readLoop_bad hb
theorem long1 (acc : Int) (r : List UInt8) (h : 100000 ≤ acc) (hl : 1 ≤ r.length) : readLoop acc r = none := long_base acc r (by omega) hl
theorem long2 (acc : Int) (r : List UInt8) (h : 10000 ≤ acc) (hl : 2 ≤ r.length) : readLoop acc r = none := long_step long1 acc r (by omega) hl
theorem long3 (acc : Int) (r : List UInt8) (h : 1000 ≤ acc) (hl : 3 ≤ r.length) : readLoop acc r = none := long_step long2 acc r (by omega) hl
theorem long4 (acc : Int) (r : List UInt8) (h : 100 ≤ acc) (hl : 4 ≤ r.length) : readLoop acc r = none := long_step long3 acc r (by omega) hl
theorem long5 (acc : Int) (r : List UInt8) (h : 10 ≤ acc) (hl : 5 ≤ r.length) : readLoop acc r = none := long_step long4 acc r (by omega) hl
theorem long6 (acc : Int) (r : List UInt8) (h : 1 ≤ acc) (hl : 6 ≤ r.length) : readLoop acc r = none := long_step long5 acc r (by omega) hl
theorem dig_pos {b : UInt8} (h : isDig b = true) (h0 : ¬ b = 48) : 49 ≤ (b.toNat : Int) := by
  have := isDig_in h
  have : ¬ (b.toNat : Int) = 48 := fun he => h0 (byte_eq (by rw [he]; rfl))
  omega

theorem sread_eq (l : List UInt8) : sreadF l = readF l := by
  unfold sreadF readF
  by_cases h1 : l = [45]
  · rw [if_pos h1, if_pos h1]
  · rw [if_neg h1, if_neg h1]
    cases l with
    | nil => simp [numF, numBody]
    | cons b r =>
      rw [if_neg (by simp)]
      by_cases hm : b = 45
      · subst hm
        have e1 : readLoop 0 (45 :: r) = none := readLoop_bad (by decide)
        have e2 : numF (45 :: r) = numBody true r := by simp [numF]
        rw [e1, e2]
        have e3 : (numBody true r).bind (fun n => if 0 ≤ n ∧ n ≤ 999999 then some n else none) = none := by
          unfold numBody
          split
          · rfl
          · split
            · rfl
            · rename_i ha hb
              cases r with
              | nil => simp at ha
              | cons c r =>
                rcases isDig_cases c with hc | hc
                · have hc0 : ¬ c = 48 := by intro he; apply hb; simp [he]
                  have := dig_pos hc hc0
                  rw [numLoop_on hc]
                  cases hn : numLoop (0 * 10 + ((c.toNat : Int) - 48)) r with
                  | none => rfl
                  | some n =>
                    have := numLoop_ge r _ _ (by omega) hn
                    simp only [Option.map_some, if_true, Option.bind_some]
                    rw [if_neg (by omega)]
                · rw [numLoop_bad hc]; rfl
        rw [e3]
        split <;> rfl
      · have e2 : numF (b :: r) = numBody false (b :: r) := by unfold numF; rw [if_neg (by simpa using hm)]
        rw [e2]
        unfold numBody
        by_cases hlen : 17 < (b :: r).length
        · rw [if_pos (Or.inr hlen)]
          simp only [Option.bind_none]
          split
          · rfl
          · rename_i hz
            symm
            rcases isDig_cases b with hb | hb
            · have hb0 : ¬ b = 48 := by
                intro he; apply hz; exact ⟨by omega, by simp [he]⟩
              have := dig_pos hb hb0
              have := isDig_in hb
              rw [readLoop_on hb (by omega)]
              exact long6 _ _ (by omega) (by simp at hlen; omega)
            · exact readLoop_bad hb
        · rw [if_neg (by simp only [not_or]; exact ⟨by simp, hlen⟩)]
          by_cases hz : 1 < (b :: r).length ∧ (b :: r).head? = some 48
          · rw [if_pos hz, if_pos ⟨hz.2, Or.inl hz.1⟩]; rfl
          · rw [if_neg hz, if_neg (by rintro ⟨ha, hb | hb⟩; exact hz ⟨hb, ha⟩; cases hb)]
            rw [read_num _ _ (by omega) (by omega)]
            simp

end Go.Proofs.YtfdbbopanankgaaDoor
namespace Go.Proofs.YtfdbbopanankgaaDoor
open Go.RowKit
set_option maxHeartbeats 400000
set_option maxRecDepth 100000
set_option linter.unusedVariables false

theorem conv_one (w : World) (z : Int) : (convert 22 9 (.slice (some ⟨w.heap.size, 0, none⟩) 1 1)).run Tryd.prog (w.alloc (.cells #[.int .u8 z] 5)) = .ok (.string (ByteArray.empty.push (UInt8.ofNat z.toNat))) (w.alloc (.cells #[.int .u8 z] 5)) := by
  rw [run_convert_bytes_string _ _ _ _ _ _ _ Tryd.underlying22 Tryd.underlying5 Tryd.underlying9]
  rw [run_bytesToString _ _ 1 1 [z] (run_loadCells_list _ _ [.int .u8 z] (by
    intro j v hj
    match j, hj with
    | 0, hj => simp at hj; subst hj; simp [Addr.add]))]
  rfl

theorem dec_big {k : Nat} (h : 9 < k) : Lib.decDigits k = Lib.decDigits (k / 10) ++ [48 + UInt8.ofNat (k % 10)] := by
  rw [Lib.decDigits, dif_neg (by omega), UInt8.ofNat_add]; rfl
theorem dec_small {k : Nat} (h : ¬ 9 < k) : Lib.decDigits k = [48 + UInt8.ofNat k] := by
  rw [Lib.decDigits, dif_pos (by omega), UInt8.ofNat_add]; rfl
theorem push_data (u : UInt8) (t : ByteArray) : ((ByteArray.empty.push u) ++ t).data.toList = u :: t.data.toList := by
  simp [ByteArray.data_append, ByteArray.data_push, ByteArray.data_empty]

def DecEnd (n : Nat) (w : World) (e : Ending) (w' : World) : Prop := e = .returned (.string ⟨(Lib.decDigits n).toArray⟩) ∧ Below w.heap.size w w'

end Go.Proofs.YtfdbbopanankgaaDoor
