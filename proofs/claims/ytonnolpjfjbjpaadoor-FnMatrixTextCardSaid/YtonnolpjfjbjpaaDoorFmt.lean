/- The text of a cost, the program's and the model's: each returns the same bytes; nothing that was there changes. Condition: the library's table of powers of ten reads as its text lays it. -/
import Derived.Test.YtonnolpjfjbjpaaDoorDec
import Derived.Test.YtonnolpjfjbjpaaDoorTab
import Derived.Test.YtonnolpjfjbjpaaDoorShelf
import Derived.WalkSmall
import Derived.Lib.AppendIntMem
namespace Go.Proofs.YtonnolpjfjbjpaaDoor
open Go.RowKit
set_option maxHeartbeats 400000
set_option linter.unusedVariables false

/-- The bytes of a cost's text. -/
def fmtF (a : Int) : List UInt8 := if vld a = true then (if a = 1000000 then [45] else Lib.decDigits a.toNat) else []
theorem fmtF_no {a : Int} (h : vld a = false) : fmtF a = [] := by unfold fmtF; rw [h]; simp
theorem fmtF_never : fmtF 1000000 = [45] := rfl
theorem fmtF_some {k : Nat} (h : k < 1000000) : fmtF (k : Int) = Lib.decDigits k := by
  unfold fmtF
  rw [if_pos (vld_yes (by omega)), if_neg (by omega), Int.toNat_natCast]

abbrev Tab10 (w : World) : Prop := Lib.TabIs Tryd.prog w "internal/strconv.uint64pow10" .u64 Lib.pow10Tab

def FmtEnd (l : List UInt8) (w : World) (e : Ending) (w' : World) : Prop := e = .returned (.string ⟨l.toArray⟩) ∧ Below w.heap.size w w'
theorem FmtEnd.mk_ {l l' : List UInt8} {w w' : World} (h : l = l') (hb : Below w.heap.size w w') : FmtEnd l w (.returned (.string ⟨l'.toArray⟩)) w' := by subst h; exact ⟨rfl, hb⟩

theorem sFmt_any (a : Int) (w : World) : Calls Tryd.prog 47 #[.int .i64 a] w fun e w' => FmtEnd (fmtF a) w e w' := by
  rcases vld_cases a with hv | hv
  · obtain ⟨a0, a1⟩ := vld_t hv
    have HV := Lib.hid hv
    clear hv
    by_cases hn : a = 1000000
    · subst hn
      go_enter Tryd.func47, Tryd.ntmps47
      go_wp2_with (go_at_call 46; refine (sValid_t _ _ HV.out).mono ?_; rintro e w' ⟨rfl, rfl⟩)
      go_ret
      exact ⟨rfl, Below.refl _ _⟩
    · obtain ⟨k, rfl⟩ := Int.eq_ofNat_of_zero_le a0
      have hk : k < 1000000 := by omega
      have hkb : ((k : Int) == 1000000) = false := by rw [beq_eq_false_iff_ne]; exact hn
      have HF := Lib.hid (fmtF_some hk)
      clear hn
      go_enter Tryd.func47, Tryd.ntmps47
      go_wp2_with fail
      refine (sValid_t _ _ HV.out).mono ?_
      rintro e w' ⟨rfl, rfl⟩
      go_wp2_with fail
      refine (dec_any _ _ (by omega)).mono ?_
      rintro e w1 ⟨rfl, hb⟩
      go_wp2_with fail
      go_ret
      exact FmtEnd.mk_ HF.out hb
  · have HF := Lib.hid (fmtF_no hv)
    have HV := Lib.hid hv
    clear hv
    go_enter Tryd.func47, Tryd.ntmps47
    go_wp2_with (go_at_call 46; refine (sValid_f _ _ HV.out).mono ?_; rintro e w' ⟨rfl, rfl⟩)
    go_ret
    exact FmtEnd.mk_ HF.out (Below.refl _ _)

theorem itoa_nat (k : Nat) : Lib.itoa (k : Int) = Lib.decDigits k := by
  unfold Lib.itoa; rw [if_neg (by omega), Int.toNat_natCast]

theorem text_any (a : Int) (w : World) (ht : Tab10 w) : Calls Tryd.prog 55 #[.int .i64 a] w fun e w' => FmtEnd (fmtF a) w e w' := by
  have HT := Lib.hid ht
  clear ht
  rcases vld_cases a with hv | hv
  · obtain ⟨a0, a1⟩ := vld_t hv
    have HV := Lib.hid hv
    clear hv
    by_cases hn : a = 1000000
    · subst hn
      go_enter Tryd.func55, Tryd.ntmps55
      go_wp2_with (go_at_call 48; refine (valid_t _ _ HV.out).mono ?_; rintro e w' ⟨rfl, rfl⟩)
      go_ret
      exact ⟨rfl, Below.refl _ _⟩
    · obtain ⟨k, rfl⟩ := Int.eq_ofNat_of_zero_le a0
      have hk : k < 1000000 := by omega
      have hkb : ((k : Int) == 1000000) = false := by rw [beq_eq_false_iff_ne]; exact hn
      have HF := Lib.hid ((fmtF_some hk).trans (itoa_nat k).symm)
      clear hn
      go_enter Tryd.func55, Tryd.ntmps55
      go_wp2_with fail
      refine (valid_t _ _ HV.out).mono ?_
      rintro e w' ⟨rfl, rfl⟩
      go_wp2_with fail
      refine (Tryd.strconv_Itoa _ (by omega) (by omega) _ HT.out).mono ?_
      rintro e w1 ⟨rfl, q, os, rfl⟩
      go_wp2_with fail
      go_ret
      exact FmtEnd.mk_ HF.out (Lib.below_grow _ _ (Nat.le_refl _) _ _)
  · have HF := Lib.hid (fmtF_no hv)
    have HV := Lib.hid hv
    clear hv
    go_enter Tryd.func55, Tryd.ntmps55
    go_wp2_with (go_at_call 48; refine (valid_f _ _ HV.out).mono ?_; rintro e w' ⟨rfl, rfl⟩)
    go_ret
    exact FmtEnd.mk_ HF.out (Below.refl _ _)

theorem fmt_any (a : Int) (w : World) (ht : Tab10 w) : Calls Tryd.prog 40 #[.int .i64 a] w fun e w' => FmtEnd (fmtF a) w e w' := by
  have HT := Lib.hid ht
  clear ht
  go_enter Tryd.func40, Tryd.ntmps40
  go_wp2_with fail
  refine (text_any _ _ HT.out).mono ?_
  rintro e w1 ⟨rfl, hb⟩
  go_wp2_with fail
  go_ret
  exact ⟨rfl, hb⟩

theorem g10 : Tryd.prog.globalNamed "internal/strconv.uint64pow10" = some 3 := by kernel_rfl
theorem tab10_type : (Tryd.prog.globals[3]?).map (·.type) = some 115 := by kernel_rfl
theorem tab10_array : Tryd.prog.underlying 115 = some (.array 20 109) := by kernel_rfl
theorem tab10_elem : Tryd.prog.underlying 109 = some (.int .u64) := by kernel_rfl
theorem tab10_below {w w' : World} {B : Nat} (h : Tab10 w) (hb : Below B w w') (hB : 3 < B) : Tab10 w' := var?_below hb g10 hB h

end Go.Proofs.YtonnolpjfjbjpaaDoor
