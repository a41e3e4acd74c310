/- WordValid, the program's and the model's: the plain test of the bytes; nothing that was there changes. Condition: the text is no longer than a length. -/
import Derived.Test.YthgkhpbfbilgmaaDoorWordT
import Derived.Test.YthgkhpbfbilgmaaDoorShelf
import Derived.Shelf.Strings.SlTrimAscii
namespace Go.Proofs.YthgkhpbfbilgmaaDoor
open Go.RowKit Go.Shelf
set_option maxHeartbeats 1000000
set_option maxRecDepth 100000
set_option linter.unusedVariables false

theorem trim_ab (s : ByteArray) (w : World) (hs : s.size ≤ 9223372036854775807) :
    Calls Tryd.prog 32 #[.string s, .string ⟨#[97, 98]⟩] w fun e w' => e = .returned (.string ⟨(Lib.trimS s.data.toList [97, 98]).toArray⟩) ∧ Below w.heap.size w w' := by
  have h := Any.strings_Trim_laid Tryd.lays160 (by kernel_rfl) s ⟨#[97, 98]⟩ w hs (by decide) (ascii_of_all (by decide))
  exact h
theorem iWordValid_is (s : ByteArray) (r : Bool) (w : World) (hs : s.size ≤ 9223372036854775807) (hr : wordOk s = r) :
    Calls Tryd.prog 10 #[.string s] w fun e w' => e = .returned (.bool r) ∧ Hid (Below w.heap.size w w') := by
  have HR := Lib.hid hr
  have HT := Lib.hid (trim_is s)
  clear hr
  obtain ⟨b, hb⟩ : ∃ b, s.data.toList.all isAB = b := ⟨_, rfl⟩
  have HB := Lib.hid hb
  clear hb
  by_cases h1 : s.size ≤ 1000
  · have e : r = b := by rw [← HR.out]; unfold wordOk; rw [HB.out, decide_eq_true h1]; rfl
    have HE := Lib.hid e
    have h1' : (s.size : Int) ≤ 1000 := by omega
    have ht' := HT.out
    rw [HB.out] at ht'
    have HTT := Lib.hid ht'
    clear ht'
    clear e
    go_enter Tryd.func10, Tryd.ntmps10
    go_wp2_with (go_at_call 32; refine (trim_ab s _ hs).mono ?_; rintro e w1 ⟨rfl, hb1⟩)
    go_ret
    exact ⟨ret_bool (HTT.out.trans HE.out.symm), hb1⟩
  · have e : r = false := by rw [← HR.out]; unfold wordOk; rw [decide_eq_false h1]; rfl
    subst e
    have h1' : ¬ (s.size : Int) ≤ 1000 := by omega
    go_enter Tryd.func10, Tryd.ntmps10
    go_wp2_with fail
    go_ret
    exact ⟨rfl, Below.refl _ _⟩
theorem sWordValid_is (s : ByteArray) (r : Bool) (w : World) (hs : s.size ≤ 9223372036854775807) (hr : wordOk s = r) :
    Calls Tryd.prog 9 #[.string s] w fun e w' => e = .returned (.bool r) ∧ w' = w := by
  have HR := Lib.hid hr
  clear hr
  have hl : s.data.toList.length = s.size := (Lib.size_eq s).symm
  go_enter Tryd.func9, Tryd.ntmps9
  go_wp2_with fail
  go_loop [6] (fun i => ∃ k : Nat, k ≤ s.size ∧ i = .int .i64 k ∧ Hid (r = (decide (s.size ≤ 1000) && (s.data.toList.drop k).all isAB))) (fun i => s.size - (intOf i).toNat)
  case atStart => exact ⟨0, Nat.zero_le _, rfl, HR.out.symm⟩
  case round =>
    obtain ⟨k, hk, rfl, hm⟩ := hrel
    by_cases hlt : k < s.size
    · have hlt' : (k : Int) < (s.size : Int) := by omega
      have hk0 : (0 : Int) ≤ (k : Int) := by omega
      have hd : s.data.toList.drop k = s.data.toList[k]'(by omega) :: s.data.toList.drop (k + 1) := List.drop_eq_getElem_cons (by omega)
      obtain ⟨c, hc⟩ : ∃ c, c = s[k]'hlt := ⟨_, rfl⟩
      have hc2 : s.data.toList[k]'(by omega) = c := by rw [hc]; rfl
      rw [hc2] at hd
      have HD := Lib.hid hd
      clear hd hc2
      by_cases h7 : c = 97
      · have HM : Hid (r = (decide (s.size ≤ 1000) && (s.data.toList.drop (k + 1)).all isAB)) := by show _ = _; rw [hm.out, HD.out, List.all_cons, h7]; rfl
        have e7 : ((s[k]'hlt).toNat : Int) = 97 := by rw [← hc, h7]; rfl
        have e7b : (((s[k]'hlt).toNat : Int) != 97) = false := by rw [bne_eq_false_iff_eq]; exact e7
        go_wp2_with fail
        go_round
        case rel => exact ⟨k + 1, by omega, by go_num, HM⟩
        case measure => simp [intOf]; omega
      · by_cases h8 : c = 98
        · have HM : Hid (r = (decide (s.size ≤ 1000) && (s.data.toList.drop (k + 1)).all isAB)) := by show _ = _; rw [hm.out, HD.out, List.all_cons, h8]; rfl
          have e8 : ((s[k]'hlt).toNat : Int) = 98 := by rw [← hc, h8]; rfl
          have e7b : (((s[k]'hlt).toNat : Int) != 97) = true := by rw [bne_iff_ne, e8]; decide
          have e8b : (((s[k]'hlt).toNat : Int) != 98) = false := by rw [bne_eq_false_iff_eq]; exact e8
          go_wp2_with fail
          go_round
          case rel => exact ⟨k + 1, by omega, by go_num, HM⟩
          case measure => simp [intOf]; omega
        · have HM : Hid (r = false) := by
            show _ = _
            rw [hm.out, HD.out, List.all_cons]
            have : isAB c = false := by
              rcases hb : isAB c with _ | _
              · rfl
              · rcases isAB_cases hb with h | h
                · exact absurd h h7
                · exact absurd h h8
            rw [this]; simp
          have e7 : ¬ ((s[k]'hlt).toNat : Int) = 97 := fun h => h7 (by rw [hc]; apply UInt8.toNat_inj.1; show _ = 97; omega)
          have e8 : ¬ ((s[k]'hlt).toNat : Int) = 98 := fun h => h8 (by rw [hc]; apply UInt8.toNat_inj.1; show _ = 98; omega)
          have e7b : (((s[k]'hlt).toNat : Int) != 97) = true := by rw [bne_iff_ne]; exact e7
          have e8b : (((s[k]'hlt).toNat : Int) != 98) = true := by rw [bne_iff_ne]; exact e8
          go_wp2_with fail
          go_ret
          exact ⟨ret_bool HM.out.symm, rfl⟩
    · have hlt' : ¬ (k : Int) < (s.size : Int) := by omega
      have HM : Hid (r = decide (s.size ≤ 1000)) := by show _ = _; rw [hm.out, List.drop_of_length_le (by omega)]; simp
      go_wp2_with fail
      go_ret
      exact ⟨ret_bool ((decide_eq_decide.2 (by omega)).trans HM.out.symm), rfl⟩

theorem FnExactWordValid_walk (s : ByteArray) (hs : s.size ≤ maxLen) (w : World) :
    Calls Tryd.prog 3 #[.string s] w fun e w' => e = .returned (.bool true) ∧ Below w.heap.size w w' := by
  have hs' : s.size ≤ 9223372036854775807 := by unfold maxLen at hs; omega
  obtain ⟨r, hr⟩ : ∃ r, wordOk s = r := ⟨_, rfl⟩
  have HR := Lib.hid hr
  clear hr
  by_cases hb : (1048576 : Int) < (s.size : Int)
  · go_enter Tryd.func3, Tryd.ntmps3
    go_wp2_with fail
    go_ret
    exact ⟨rfl, Below.refl _ _⟩
  go_enter Tryd.func3, Tryd.ntmps3
  go_wp2_with fail
  refine (sWordValid_is s r _ hs' HR.out).mono ?_
  rintro e w' ⟨rfl, rfl⟩
  go_wp2_with fail
  refine (iWordValid_is s r _ hs' HR.out).mono ?_
  rintro e w1 ⟨rfl, hb1⟩
  go_wp2_with fail
  go_ret
  exact ⟨rfl, hb1.out⟩
end Go.Proofs.YthgkhpbfbilgmaaDoor
