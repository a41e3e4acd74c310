/- The text of a cost, the program's and the model's: each returns the same bytes; nothing that was there changes. Condition: the library's table of powers of ten reads as its text lays it. -/
import Derived.Test.YtidahhfpnhmkgaaDoorDec
import Derived.Test.YtidahhfpnhmkgaaDoorTab
import Derived.Test.YtidahhfpnhmkgaaDoorShelf
import Derived.WalkSmall
import Derived.Lib.AppendIntMem
namespace Go.Proofs.YtidahhfpnhmkgaaDoor
open Go.RowKit
set_option maxHeartbeats 400000
set_option linter.unusedVariables false

/-- The bytes of a cost's text. -/
def fmtF (a : Int) : List UInt8 := if vld a = true then (if a = 1000000 then [45] else Lib.decDigits a.toNat) else []
theorem fmtF_no {a : Int} (h : vld a = false) : fmtF a = [] := by unfold fmtF; rw [h]; simp
theorem fmtF_never : fmtF 1000000 = [45] := rfl
theorem fmtF_some {k : Nat} (h : k < 1000000) : fmtF (k : Int) = Lib.decDigits k := by
  unfold fmtF
  rw [if_pos (vld_yes (by omega)), if_neg (by omega), Int.toNat_natCast]

abbrev Tab10 (w : World) : Prop := Lib.TabIs Tryd.prog w "internal/strconv.uint64pow10" .u64 Lib.pow10Tab

def FmtEnd (l : List UInt8) (w : World) (e : Ending) (w' : World) : Prop := e = .returned (.string ⟨l.toArray⟩) ∧ Below w.heap.size w w'
theorem FmtEnd.mk_ {l l' : List UInt8} {w w' : World} (h : l = l') (hb : Below w.heap.size w w') : FmtEnd l w (.returned (.string ⟨l'.toArray⟩)) w' := by subst h; exact ⟨rfl, hb⟩

theorem itoa_nat (k : Nat) : Lib.itoa (k : Int) = Lib.decDigits k := by
  unfold Lib.itoa; rw [if_neg (by omega), Int.toNat_natCast]

theorem g10 : Tryd.prog.globalNamed "internal/strconv.uint64pow10" = some 1 := by kernel_rfl
theorem tab10_type : (Tryd.prog.globals[1]?).map (·.type) = some 117 := by kernel_rfl
theorem tab10_array : Tryd.prog.underlying 117 = some (.array 20 97) := by kernel_rfl
theorem tab10_elem : Tryd.prog.underlying 97 = some (.int .u64) := by kernel_rfl
theorem tab10_below {w w' : World} {B : Nat} (h : Tab10 w) (hb : Below B w w') (hB : 1 < B) : Tab10 w' := var?_below hb g10 hB h

end Go.Proofs.YtidahhfpnhmkgaaDoor
