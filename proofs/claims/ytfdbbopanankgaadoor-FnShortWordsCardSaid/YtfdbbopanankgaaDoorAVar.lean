/- An automaton in a variable, with rows of its own, through a walk of many calls; what the program's and the model's functions of it leave, put so. No condition. -/
import Derived.Test.YtfdbbopanankgaaDoorMatAt
import Derived.Test.YtfdbbopanankgaaDoorWordM
import Derived.Test.YtfdbbopanankgaaDoorCostM
import Derived.Test.YtfdbbopanankgaaDoorMarkB
namespace Go.Proofs.YtfdbbopanankgaaDoor
open Go.RowKit
set_option maxHeartbeats 1000000
set_option maxRecDepth 100000
set_option linter.unusedVariables false

/-- The rows of an automaton. -/
structure AR (w : World) (A1 A2 A3 : Option Addr) (xs ys : List Int) (ss : List StepD) : Prop where
  i1 : Ints w w.heap.size A1 xs
  i2 : Ints w w.heap.size A2 ys
  s3 : SRow w w.heap.size A3 ss
theorem AR.below {w w' : World} {A1 A2 A3 : Option Addr} {xs ys : List Int} {ss : List StepD} (h : AR w A1 A2 A3 xs ys ss) (hb : Below w.heap.size w w') : AR w' A1 A2 A3 xs ys ss :=
  ⟨(h.i1.below hb).more hb.size, (h.i2.below hb).more hb.size, h.s3.on hb⟩
theorem AR.of {w : World} {B : Nat} {A1 A2 A3 : Option Addr} {c1 c2 c3 : Nat} {xs ys : List Int} {ss : List StepD} (h : AOwn w B (.slice A1 xs.length c1) (.slice A2 ys.length c2) (.slice A3 ss.length c3) xs ys ss) : AR w A1 A2 A3 xs ys ss := by
  obtain ⟨⟨a1, d1, e1, h1⟩, ⟨a2, d2, e2, h2⟩, ⟨a3, d3, e3, h3⟩⟩ := h.read
  cases e1
  cases e2
  cases e3
  exact ⟨h1, h2, h3⟩
/-- .. and the variable. -/
def AV (w : World) (g : Nat) (m : Int) (A1 A2 A3 : Option Addr) (c1 c2 c3 : Nat) (xs ys : List Int) (ss : List StepD) : Prop :=
  Blk w g 26 #[.int .i64 m, .slice A1 xs.length c1, .slice A2 ys.length c2, .slice A3 ss.length c3] ∧ AR w A1 A2 A3 xs ys ss
section
variable {w w' : World} {g : Nat} {m : Int} {A1 A2 A3 : Option Addr} {c1 c2 c3 : Nat} {xs ys : List Int} {ss : List StepD}
theorem AV.below (h : AV w g m A1 A2 A3 c1 c2 c3 xs ys ss) (hb : Below w.heap.size w w') : AV w' g m A1 A2 A3 c1 c2 c3 xs ys ss := ⟨blk_b h.1 hb, h.2.below hb⟩
theorem AV.al (h : AV w g m A1 A2 A3 c1 c2 c3 xs ys ss) (o : Obj) : AV (w.alloc o) g m A1 A2 A3 c1 c2 c3 xs ys ss := h.below (below_a1 w o)
theorem AV.lt (h : AV w g m A1 A2 A3 c1 c2 c3 xs ys ss) : g < w.heap.size := Blk.lt h.1
theorem AV.cells (h : AV w g m A1 A2 A3 c1 c2 c3 xs ys ss) : w.cell? ⟨g, 0, none⟩ = some (.int .i64 m) ∧ w.cell? ⟨g, 1, none⟩ = some (.slice A1 xs.length c1) ∧ w.cell? ⟨g, 2, none⟩ = some (.slice A2 ys.length c2) ∧ w.cell? ⟨g, 3, none⟩ = some (.slice A3 ss.length c3) := four_cells h.1
end
/-- The object of an automaton's variable. -/
abbrev AO (m : Int) (A1 A2 A3 : Option Addr) (c1 c2 c3 : Nat) (xs ys : List Int) (ss : List StepD) : Obj := .cells #[.int .i64 m, .slice A1 xs.length c1, .slice A2 ys.length c2, .slice A3 ss.length c3] 26
theorem AV.new {w : World} {g : Nat} {m : Int} {A1 A2 A3 : Option Addr} {c1 c2 c3 : Nat} {xs ys : List Int} {ss : List StepD} (hg : g = w.heap.size) (h : AR w A1 A2 A3 xs ys ss) : AV (w.alloc (AO m A1 A2 A3 c1 c2 c3 xs ys ss)) g m A1 A2 A3 c1 c2 c3 xs ys ss := by
  subst hg; exact ⟨Blk.new _ _ _, h.below (below_a1 w _)⟩
/-- A list of numbers that is the call's own. -/
def LVal (w : World) (A : Option Addr) (cap : Nat) (vs : List Int) : Prop := OwnI w A cap vs ∧ vs.length ≤ 1048577
section
variable {w : World} {m : Int} {A1 A2 A3 : Option Addr} {c1 c2 c3 : Nat} {xs ys : List Int} {ss : List StepD} {l : ByteArray}
theorem iCost_r (r : Int) (hll : l.size ≤ maxLen) (h : AR w A1 A2 A3 xs ys ss) (hr : costR m xs ys ss l = r) :
    Calls Tryd.prog 11 #[.agg #[.int .i64 m, .slice A1 xs.length c1, .slice A2 ys.length c2, .slice A3 ss.length c3], .string l] w fun e w' => e = .returned (.int .i64 r) ∧ Hid (Below w.heap.size w w') :=
  iCostOf_any m A1 A2 A3 c1 c2 c3 xs ys ss l r hll w h.i1 h.i2 h.s3 hr
theorem av_shut : True := trivial
end
theorem word_good {m : Int} {xs ys : List Int} {ss : List StepD} {l : ByteArray} (h : (wordR m xs ys ss l).isSome = true) : ∃ n : Nat, m = (n : Int) ∧ autoOk n xs ys ss = true ∧ wordOk l = true := by
  unfold wordR at h
  split at h
  · rename_i hh
    obtain ⟨n, rfl, _⟩ := auto_in hh.1
    exact ⟨n, rfl, hh.1, hh.2⟩
  · cases h
end Go.Proofs.YtfdbbopanankgaaDoor
