/- WordValid, the program's and the model's: the plain test of the bytes; nothing that was there changes. Condition: the text is no longer than a length. An automaton that is to read a word, as the program's machine, and whether both are valid; in new memory; nothing that was there changes. Condition: the text is no longer than a length. -/
import Derived.Test.YtdhpcpmjdffgmaaDoorWordT
import Derived.Test.YtdhpcpmjdffgmaaDoorShelf
import Derived.Shelf.Strings.SlTrimAscii
import Derived.Test.YtdhpcpmjdffgmaaDoorMach2
namespace Go.Proofs.YtdhpcpmjdffgmaaDoor
open Go.RowKit Go.Shelf
set_option maxHeartbeats 1000000
set_option maxRecDepth 100000
set_option linter.unusedVariables false

theorem trim_ab (s : ByteArray) (w : World) (hs : s.size ≤ 9223372036854775807) :
    Calls Tryd.prog 23 #[.string s, .string ⟨#[97, 98]⟩] w fun e w' => e = .returned (.string ⟨(Lib.trimS s.data.toList [97, 98]).toArray⟩) ∧ Below w.heap.size w w' := by
  have h := Any.strings_Trim_laid Tryd.lays160 (by kernel_rfl) s ⟨#[97, 98]⟩ w hs (by decide) (ascii_of_all (by decide))
  exact h
theorem iWordValid_is (s : ByteArray) (r : Bool) (w : World) (hs : s.size ≤ 9223372036854775807) (hr : wordOk s = r) :
    Calls Tryd.prog 13 #[.string s] w fun e w' => e = .returned (.bool r) ∧ Hid (Below w.heap.size w w') := by
  have HR := Lib.hid hr
  have HT := Lib.hid (trim_is s)
  clear hr
  obtain ⟨b, hb⟩ : ∃ b, s.data.toList.all isAB = b := ⟨_, rfl⟩
  have HB := Lib.hid hb
  clear hb
  by_cases h1 : s.size ≤ 1000
  · have e : r = b := by rw [← HR.out]; unfold wordOk; rw [HB.out, decide_eq_true h1]; rfl
    have HE := Lib.hid e
    have h1' : (s.size : Int) ≤ 1000 := by omega
    have ht' := HT.out
    rw [HB.out] at ht'
    have HTT := Lib.hid ht'
    clear ht'
    clear e
    go_enter Tryd.func13, Tryd.ntmps13
    go_wp2_with (go_at_call 23; refine (trim_ab s _ hs).mono ?_; rintro e w1 ⟨rfl, hb1⟩)
    go_ret
    exact ⟨ret_bool (HTT.out.trans HE.out.symm), hb1⟩
  · have e : r = false := by rw [← HR.out]; unfold wordOk; rw [decide_eq_false h1]; rfl
    subst e
    have h1' : ¬ (s.size : Int) ≤ 1000 := by omega
    go_enter Tryd.func13, Tryd.ntmps13
    go_wp2_with fail
    go_ret
    exact ⟨rfl, Below.refl _ _⟩
end Go.Proofs.YtdhpcpmjdffgmaaDoor
namespace Go.Proofs.YtdhpcpmjdffgmaaDoor
open Go.RowKit
set_option maxHeartbeats 4000000
set_option maxRecDepth 100000
set_option linter.unusedVariables false

end Go.Proofs.YtdhpcpmjdffgmaaDoor
