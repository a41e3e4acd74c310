/- A text cut at every byte c: the plain pieces, the library's own splitting, and the model's l13Cut: it returns the pieces; nothing that was there changes. Condition: at most 2^20 bytes. -/
import Derived.Test.YtonnolpjfjbjpaaDoorDigits
import Derived.Test.YtonnolpjfjbjpaaDoorCopy
import Derived.Lib.SplitLaws
import Derived.WalkLawsBesides
import Derived.WalkSpells
import Derived.BigQuiet
namespace Go.Proofs.YtonnolpjfjbjpaaDoor
open Go.RowKit
set_option maxHeartbeats 1000000
set_option linter.unusedVariables false

def headOn (x : List UInt8) : List (List UInt8) → List (List UInt8)
  | [] => [x]
  | p :: ps => (x ++ p) :: ps
/-- The pieces. -/
def cutL (c : UInt8) : List UInt8 → List (List UInt8)
  | [] => [[]]
  | b :: l => if b = c then [] :: cutL c l else headOn [b] (cutL c l)
theorem cutL_ne (c : UInt8) (l : List UInt8) : ¬ cutL c l = [] := by
  cases l with
  | nil => simp [cutL]
  | cons b l =>
    unfold cutL
    split
    · simp
    · cases cutL c l <;> simp [headOn]
theorem headOn_nil {ps : List (List UInt8)} (h : ¬ ps = []) : headOn [] ps = ps := by cases ps <;> simp_all [headOn]
theorem headOn_on (x y : List UInt8) (ps : List (List UInt8)) : headOn x (headOn y ps) = headOn (x ++ y) ps := by cases ps <;> simp [headOn]
theorem cut_hit {c b : UInt8} (l : List UInt8) (h : b = c) : cutL c (b :: l) = [] :: cutL c l := by simp [cutL, h]
theorem cut_miss {c b : UInt8} (l : List UInt8) (h : ¬ b = c) : cutL c (b :: l) = headOn [b] (cutL c l) := by simp [cutL, h]

theorem split_cut (c : UInt8) : ∀ l : List UInt8, Lib.splitK [c] 0 (Lib.count l [c]) l = cutL c l
  | [] => by rw [Lib.count_miss (by simp [Lib.index])]; rfl
  | b :: l => by
    have ih := split_cut c l
    by_cases h : b = c
    · rw [cut_hit l h, ← ih]
      subst h
      rw [Lib.count_cons_eq, Nat.add_comm 1, Lib.splitK]
      have hix : Lib.index (b :: l) [b] = ((0 : Nat) : Int) := by rw [Lib.index]; simp [List.isPrefixOf]
      rw [hix]
      simp
    · rw [cut_miss l h, ← ih, Lib.count_cons_ne _ _ _ h]
      have hp : ([c] : List UInt8).isPrefixOf (b :: l) = false := by simp [List.isPrefixOf]; exact fun e => h e.symm
      have hix : Lib.index (b :: l) [c] = if Lib.index l [c] == -1 then -1 else Lib.index l [c] + 1 := by rw [Lib.index, hp]; simp
      cases hk : Lib.count l [c] with
      | zero => rfl
      | succ k =>
        have hnm : ¬ Lib.index l [c] = -1 := by
          intro hm
          rw [Lib.count_miss hm] at hk; cases hk
        have hix2 : Lib.index (b :: l) [c] = Lib.index l [c] + 1 := by rw [hix, if_neg (by simpa using hnm)]
        have hge : 0 ≤ Lib.index l [c] := by
          have := Lib.index_ge l [c]
          omega
        rw [Lib.splitK, Lib.splitK, if_neg (by rw [hix2, beq_iff_eq]; omega), if_neg (by simpa using hnm), hix2]
        have e1 : (Lib.index l [c] + 1).toNat = (Lib.index l [c]).toNat + 1 := by omega
        rw [e1]
        have e2 : (Lib.index l [c]).toNat + 1 + [c].length = ((Lib.index l [c]).toNat + [c].length) + 1 := by simp
        rw [e2, Nat.add_zero, Nat.add_zero, List.take_succ_cons, List.drop_succ_cons]
        rfl

theorem info_text : (Tryd.prog.info? 9).map (fun i => (i.zero, i.size, i.bytes)) = some (some (.string ByteArray.empty), 1, 16) := by kernel_rfl

/-- What the cutting leaves: the pieces in a row of the call's own. -/
def CutEnd (c : UInt8) (l : List UInt8) (w : World) (e : Ending) (w' : World) : Prop :=
  ∃ (x : Value) (ps : List ByteArray), e = .returned x ∧ ps.map (·.data.toList) = cutL c l ∧ w'.ownsRow w.heap.size 9 1 x ps.length (ps.map Value.string) ∧ Below w.heap.size w w' ∧ ps.length ≤ l.length + 1

theorem str_snoc (ps : List ByteArray) (p : ByteArray) : ps.map Value.string ++ [.string p] = (ps ++ [p]).map Value.string := by simp

/-- Where the loop stands: the pieces ps are done, the next begins at f. -/
def CutAt (c : UInt8) (l : List UInt8) (ps : List ByteArray) (f i : Nat) : Prop :=
  (i ≤ l.length ∧ f ≤ i ∧ cutL c l = ps.map (·.data.toList) ++ headOn ((l.take i).drop f) (cutL c (l.drop i))) ∨ (i = l.length + 1 ∧ cutL c l = ps.map (·.data.toList))

theorem cutAt_miss {c : UInt8} {s : ByteArray} {ps : List ByteArray} {f i : Nat} (h : CutAt c s.data.toList ps f i) (hi : i < s.size) (hc : ¬ s[i] = c) : CutAt c s.data.toList ps f (i + 1) := by
  have hsz : s.data.toList.length = s.size := by simp
  rcases h with ⟨h1, h2, h3⟩ | ⟨h1, _⟩
  · refine .inl ⟨by omega, by omega, ?_⟩
    rw [h3, drop_byte s i hi, cut_miss _ hc, headOn_on, List.take_succ_eq_append_getElem (by omega), List.drop_append_of_le_length (by rw [List.length_take]; omega)]
    rfl
  · omega
theorem cutAt_hit {c : UInt8} {s : ByteArray} {ps : List ByteArray} {f i : Nat} (h : CutAt c s.data.toList ps f i) (hi : i < s.size) (hc : s[i] = c) : CutAt c s.data.toList (ps ++ [s.extract f i]) (i + 1) (i + 1) := by
  have hsz : s.data.toList.length = s.size := by simp
  rcases h with ⟨h1, h2, h3⟩ | ⟨h1, _⟩
  · refine .inl ⟨by omega, Nat.le_refl _, ?_⟩
    rw [h3, drop_byte s i hi, cut_hit _ hc, List.map_append, List.map_cons, List.map_nil, Lib.extract_data]
    have e : (s.data.toList.take (i + 1)).drop (i + 1) = [] := List.drop_of_length_le (by rw [List.length_take]; omega)
    rw [e, headOn_nil (cutL_ne _ _)]
    have e2 : (s.data.toList.drop f).take (i - f) = (s.data.toList.take i).drop f := by rw [List.drop_take]
    simp [headOn, e2]
  · omega
theorem cutAt_end {c : UInt8} {s : ByteArray} {ps : List ByteArray} {f i : Nat} (h : CutAt c s.data.toList ps f i) (hi : i = s.size) : CutAt c s.data.toList (ps ++ [s.extract f i]) (i + 1) (i + 1) := by
  have hsz : s.data.toList.length = s.size := by simp
  rcases h with ⟨h1, h2, h3⟩ | ⟨h1, _⟩
  · refine .inr ⟨by omega, ?_⟩
    have e0 : s.data.toList.drop i = [] := List.drop_of_length_le (by omega)
    have e2 : (s.data.toList.drop f).take (i - f) = (s.data.toList.take i).drop f := by rw [List.drop_take]
    rw [h3, e0, List.map_append, List.map_cons, List.map_nil, Lib.extract_data, e2]
    simp [cutL, headOn]
  · omega
theorem cutAt_le {c : UInt8} {l : List UInt8} {ps : List ByteArray} {f i : Nat} (h : CutAt c l ps f i) (hi : i ≤ l.length) : f ≤ i := by
  rcases h with ⟨_, h2, _⟩ | ⟨h1, _⟩ <;> omega

theorem cut_any (s : ByteArray) (ci : Int) (c : UInt8) (hci : (c.toNat : Int) = ci) (w : World) (hs : s.size ≤ 1048576) :
    Calls Tryd.prog 32 #[.string s, .int .u8 ci] w fun e w' => CutEnd c s.data.toList w e w' := by
  obtain ⟨i0, hi, hz0, hz1, hz2⟩ := info_parts info_text
  have Z0 := Lib.hid hz0
  have Z1 := Lib.hid hz1
  have Z2 := Lib.hid hz2
  have ZI := Lib.hid hi
  have HC := Lib.hid hci
  clear hz0 hz1 hz2 hi hci
  have hsz : s.data.toList.length = s.size := by simp
  have HSZ := Lib.hid hsz
  clear hsz
  go_enter Tryd.func32, Tryd.ntmps32
  go_wp2
  go_loopw [5, 6, 7] (fun x fr i wr => ∃ (k f : Nat) (ps : List ByteArray), k ≤ s.size + 1 ∧ i = .int .i64 k ∧ fr = .int .i64 f ∧ wr.ownsRow w.heap.size 9 1 x ps.length (ps.map Value.string) ∧ Hid (CutAt c s.data.toList ps f k) ∧ ps.length ≤ k ∧ Below w.heap.size w wr) (fun _ _ i _ => s.size + 1 - (intOf i).toNat)
  case atStart => exact ⟨0, 0, [], Nat.zero_le _, rfl, rfl, World.ownsRow_lit _ _ 0 (Nat.le_refl _) (Nat.zero_le _) rfl, .inl ⟨Nat.zero_le _, Nat.le_refl _, by simp [headOn_nil (cutL_ne _ _)]⟩, Nat.le_refl _, (Below.refl _ _).alloc (Nat.le_refl _) _⟩
  case round =>
    obtain ⟨k, f, ps, hk, rfl, rfl, hown, hat, hpl, hb⟩ := hrel
    have HO := Lib.hid hown
    have HB := Lib.hid hb
    clear hown hb
    by_cases hlt : k < s.size
    · have hfk : f ≤ k := cutAt_le hat.out (by rw [HSZ.out]; omega)
      have hbk : (s[k].toNat : Int) < 256 := by have := s[k].toNat_lt; omega
      have hle : (k : Int) ≤ (s.size : Int) := by omega
      have hkb : ((k : Int) == (s.size : Int)) = false := by rw [beq_eq_false_iff_ne]; omega
      by_cases hc : s[k] = c
      · have hcb : ((s[k].toNat : Int) == ci) = true := by rw [beq_iff_eq, ← HC.out, hc]
        have HA := Lib.hid (cutAt_hit hat.out hlt hc)
        clear hc
        go_wp2_with (at_builtin; refine wpList_append_own _ rfl _ _ 40 rfl w.heap.size 9 i0 (.string ByteArray.empty) 1 16 Tryd.underlying40 ZI.out Z0.out Z1.out Z2.out rfl (by decide) _ _ _ rfl (HO.out.alloc _) ⟨wr.heap.size, 0, none⟩ 1 1 [.string (s.extract f k)] rfl rfl ?c1 ?c2 ?c3 ?c4 ?c5 ?_)
        case c1 =>
          intro j u hj
          match j, hj with
          | 0, hj => simp at hj; subst hj; simp [Addr.add]
        case c2 => intro u hu; simp at hu; subst hu; rfl
        case c3 => unfold maxLen; omega
        case c4 => omega
        case c5 => have := HB.out.size; simp; omega
        · intro v' w5 hown' hgrow _
          have hb5 := (HB.out.alloc HB.out.size (.cells #[.string (s.extract f k)] 9)).grown hgrow (by have := HB.out.size; simp; omega) (fun j hj => (HO.out.lt j hj).1)
          rw [str_snoc] at hown'
          have O5 := Lib.hid hown'
          have B5 := Lib.hid hb5
          clear hown' hgrow hb5
          go_wp2
          go_roundw
          case rel => exact ⟨k + 1, k + 1, ps ++ [s.extract f k], by omega, by go_num, by go_num, by rw [List.length_append]; exact O5.out, HA.out, by rw [List.length_append]; simp; omega, B5.out⟩
          case measure => simp [intOf]; omega
      · have hcb : ((s[k].toNat : Int) == ci) = false := by
          rw [beq_eq_false_iff_ne, ← HC.out]
          intro he
          exact hc (byte_eq he)
        have HA := Lib.hid (cutAt_miss hat.out hlt hc)
        clear hc
        go_wp2
        go_roundw
        case rel => exact ⟨k + 1, f, ps, by omega, by go_num, rfl, HO.out, HA.out, by omega, HB.out⟩
        case measure => simp [intOf]; omega
    · by_cases hke : k = s.size
      · have hfk : f ≤ k := cutAt_le hat.out (by rw [HSZ.out]; omega)
        have hle : (k : Int) ≤ (s.size : Int) := by omega
        have hkb : ((k : Int) == (s.size : Int)) = true := by rw [beq_iff_eq]; omega
        have HA := Lib.hid (cutAt_end hat.out hke)
        have HK := Lib.hid hke
        clear hke
        go_wp2_with (at_builtin; refine wpList_append_own _ rfl _ _ 40 rfl w.heap.size 9 i0 (.string ByteArray.empty) 1 16 Tryd.underlying40 ZI.out Z0.out Z1.out Z2.out rfl (by decide) _ _ _ rfl (HO.out.alloc _) ⟨wr.heap.size, 0, none⟩ 1 1 [.string (s.extract f k)] rfl rfl ?c1 ?c2 ?c3 ?c4 ?c5 ?_)
        case c1 =>
          intro j u hj
          match j, hj with
          | 0, hj => simp at hj; subst hj; simp [Addr.add]
        case c2 => intro u hu; simp at hu; subst hu; rfl
        case c3 => unfold maxLen; omega
        case c4 => omega
        case c5 => have := HB.out.size; simp; omega
        · intro v' w5 hown' hgrow _
          have hb5 := (HB.out.alloc HB.out.size (.cells #[.string (s.extract f k)] 9)).grown hgrow (by have := HB.out.size; simp; omega) (fun j hj => (HO.out.lt j hj).1)
          rw [str_snoc] at hown'
          have O5 := Lib.hid hown'
          have B5 := Lib.hid hb5
          clear hown' hgrow hb5
          go_wp2
          go_roundw
          case rel => exact ⟨k + 1, k + 1, ps ++ [s.extract f k], by omega, by go_num, by go_num, by rw [List.length_append]; exact O5.out, HA.out, by rw [List.length_append]; simp; omega, B5.out⟩
          case measure => simp [intOf]; omega
      · have hgt : ¬ (k : Int) ≤ (s.size : Int) := by omega
        have HK := Lib.hid (show k = s.size + 1 by omega)
        clear hke
        go_wp2
        go_ret
        refine ⟨_, ps, rfl, ?_, HO.out, HB.out, by rw [HSZ.out]; omega⟩
        rcases hat.out with ⟨h1, _, _⟩ | ⟨_, h2⟩
        · have h3 := HSZ.out; have h4 := HK.out; omega
        · exact h2.symm

end Go.Proofs.YtonnolpjfjbjpaaDoor
