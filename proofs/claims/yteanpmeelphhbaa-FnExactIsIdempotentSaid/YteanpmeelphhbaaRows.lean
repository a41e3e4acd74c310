/-
  No cell of these rows narrows 'for every input' (looked for: loops, veiled, ifaces, maps, wideKeys, modest, calm, conditions, laid).
  DERIVED. THE GIVEN ROWS OF THIS SEAT. 5 by the template 'for every input the law returns true; each argument reads behind the call as it read before'; 0 by the template 'total and deterministic' (their statements: YteanpmeelphhbaaTotals.lean).
  GIVEN WITH THE SEED: the statements are not yours to turn. If you find one false, say at which input.
  Laid BY PROGRAM, IN A SANDBOX (cutbox-rows.mjs): the forced cells as the released guide's own fill.sh prints them over the translation 90e92664ad9caddb… (all of the seat's roots in one cut). By AI agents, Wed Nov 11 2026. No macro, syntax, notation, axiom, sorry.
-/
import Derived.Test.YteanpmeelphhbaaChecked
import GoSem.Claim
import GoSem.ClaimJoined
import GoSem.ClaimMapViews
import Derived.JoinedTies
import Derived.KernelRfl
namespace Go.Proofs.Yteanpmeelphhbaa
/- THE CELL 'sum', in the pinned program and in every row, IS THE sha256 OF THE DUMP (.gsa) THAT YteanpmeelphhbaaProg.lean LOADS. Nothing in Lean hashes anything: it is a label: what it is worth is what the hold of that sum in a sandbox is worth. -/
noncomputable def Try.pinned : Pinned := { name := "yteanpmeelphhbaa", sum := "90e92664ad9caddbacad8d45aae71dfc3d434eb854b5e86b3dab9bad84a8bb0c", checked := Try.checked }
namespace Rows
def none {H : Type} : Left H := { results := [], args := [] }

/-- 'laws.FnExactGradesValid': WHATEVER THE INPUT: true; the input reads as it did. -/
def fnExactGradesValidSpec : ChangeSpec := { name := "fnExactGradesValid", fn := fun _ => fun
  | [d] => { results := [.lit (.bool true)], args := [d] }
  | _ => none }
def fnExactGradesValidRow : OpenClaim := { program := "yteanpmeelphhbaa", sum := "90e92664ad9caddbacad8d45aae71dfc3d434eb854b5e86b3dab9bad84a8bb0c", func := "loop.example/distanceautomata/laws.FnExactGradesValid", spec := "fnExactGradesValid", apart := false }
def FnExactGradesValidSaid : Prop := fnExactGradesValidRow.holds Try.pinned (OpenSpec.ofChange fnExactGradesValidSpec)

/-- ITS FALSE NEIGHBOUR: 'it returns false'. Refute it at one input. -/
def fnExactGradesValidWrong : ChangeSpec := { name := "fnExactGradesValid", fn := fun _ => fun
  | [d] => { results := [.lit (.bool false)], args := [d] }
  | _ => none }
def FnExactGradesValidWrongFalsely : Prop := fnExactGradesValidRow.holds Try.pinned (OpenSpec.ofChange fnExactGradesValidWrong)

/-- 'laws.FnExactGradesOf': WHATEVER THE INPUT: true; the input reads as it did. -/
def fnExactGradesOfSpec : ChangeSpec := { name := "fnExactGradesOf", fn := fun _ => fun
  | [d] => { results := [.lit (.bool true)], args := [d] }
  | _ => none }
def fnExactGradesOfRow : OpenClaim := { program := "yteanpmeelphhbaa", sum := "90e92664ad9caddbacad8d45aae71dfc3d434eb854b5e86b3dab9bad84a8bb0c", func := "loop.example/distanceautomata/laws.FnExactGradesOf", spec := "fnExactGradesOf", apart := false }
def FnExactGradesOfSaid : Prop := fnExactGradesOfRow.holds Try.pinned (OpenSpec.ofChange fnExactGradesOfSpec)

/-- ITS FALSE NEIGHBOUR: 'it returns false'. Refute it at one input. -/
def fnExactGradesOfWrong : ChangeSpec := { name := "fnExactGradesOf", fn := fun _ => fun
  | [d] => { results := [.lit (.bool false)], args := [d] }
  | _ => none }
def FnExactGradesOfWrongFalsely : Prop := fnExactGradesOfRow.holds Try.pinned (OpenSpec.ofChange fnExactGradesOfWrong)

/-- 'laws.FnExactMulGrades': WHATEVER THE INPUT: true; the input reads as it did. -/
def fnExactMulGradesSpec : ChangeSpec := { name := "fnExactMulGrades", fn := fun _ => fun
  | [d1, d2] => { results := [.lit (.bool true)], args := [d1, d2] }
  | _ => none }
def fnExactMulGradesRow : OpenClaim := { program := "yteanpmeelphhbaa", sum := "90e92664ad9caddbacad8d45aae71dfc3d434eb854b5e86b3dab9bad84a8bb0c", func := "loop.example/distanceautomata/laws.FnExactMulGrades", spec := "fnExactMulGrades", unfollowed := true, recurses := true, apart := false }
def FnExactMulGradesSaid : Prop := fnExactMulGradesRow.holds Try.pinned (OpenSpec.ofChange fnExactMulGradesSpec)

/-- ITS FALSE NEIGHBOUR: 'it returns false'. Refute it at one input. -/
def fnExactMulGradesWrong : ChangeSpec := { name := "fnExactMulGrades", fn := fun _ => fun
  | [d1, d2] => { results := [.lit (.bool false)], args := [d1, d2] }
  | _ => none }
def FnExactMulGradesWrongFalsely : Prop := fnExactMulGradesRow.holds Try.pinned (OpenSpec.ofChange fnExactMulGradesWrong)

/-- 'laws.FnExactIsIdempotent': WHATEVER THE INPUT: true; the input reads as it did. -/
def fnExactIsIdempotentSpec : ChangeSpec := { name := "fnExactIsIdempotent", fn := fun _ => fun
  | [d] => { results := [.lit (.bool true)], args := [d] }
  | _ => none }
def fnExactIsIdempotentRow : OpenClaim := { program := "yteanpmeelphhbaa", sum := "90e92664ad9caddbacad8d45aae71dfc3d434eb854b5e86b3dab9bad84a8bb0c", func := "loop.example/distanceautomata/laws.FnExactIsIdempotent", spec := "fnExactIsIdempotent", unfollowed := true, recurses := true, apart := false }
def FnExactIsIdempotentSaid : Prop := fnExactIsIdempotentRow.holds Try.pinned (OpenSpec.ofChange fnExactIsIdempotentSpec)

/-- ITS FALSE NEIGHBOUR: 'it returns false'. Refute it at one input. -/
def fnExactIsIdempotentWrong : ChangeSpec := { name := "fnExactIsIdempotent", fn := fun _ => fun
  | [d] => { results := [.lit (.bool false)], args := [d] }
  | _ => none }
def FnExactIsIdempotentWrongFalsely : Prop := fnExactIsIdempotentRow.holds Try.pinned (OpenSpec.ofChange fnExactIsIdempotentWrong)

/-- 'laws.FnExactStabilise': WHATEVER THE INPUT: true; the input reads as it did. -/
def fnExactStabiliseSpec : ChangeSpec := { name := "fnExactStabilise", fn := fun _ => fun
  | [d] => { results := [.lit (.bool true)], args := [d] }
  | _ => none }
def fnExactStabiliseRow : OpenClaim := { program := "yteanpmeelphhbaa", sum := "90e92664ad9caddbacad8d45aae71dfc3d434eb854b5e86b3dab9bad84a8bb0c", func := "loop.example/distanceautomata/laws.FnExactStabilise", spec := "fnExactStabilise", unfollowed := true, recurses := true, apart := false }
def FnExactStabiliseSaid : Prop := fnExactStabiliseRow.holds Try.pinned (OpenSpec.ofChange fnExactStabiliseSpec)

/-- ITS FALSE NEIGHBOUR: 'it returns false'. Refute it at one input. -/
def fnExactStabiliseWrong : ChangeSpec := { name := "fnExactStabilise", fn := fun _ => fun
  | [d] => { results := [.lit (.bool false)], args := [d] }
  | _ => none }
def FnExactStabiliseWrongFalsely : Prop := fnExactStabiliseRow.holds Try.pinned (OpenSpec.ofChange fnExactStabiliseWrong)

/- THE SECOND FORM. 'bulk': how many values and letters a reading holds, each counted each time it is reached (what is shared counts as often as it is met; a slice's spare places count too). A statement '..UptoSaid' is the law's where the arguments, and the package variables that the reading takes, are together of bulk at most 1048576: NARROWER than '..Said'. Prove '..Said' where nothing that the law and all that it calls make is longer than what came in: it says more and counts as full. Else prove '..UptoSaid'. A law counts once. -/
mutual
def uptoBulk {H : Type} : DataW H → Nat
  | .lit (.string bytes) => bytes.length + 1
  | .lit _ => 1
  | .nil => 1
  | .ptr d => uptoBulk d + 1
  | .slice elems spare => uptoBulkAll elems + uptoBulkAll spare + 1
  | .agg parts => uptoBulkAll parts + 1
  | .iface _ d => uptoBulk d + 1
  | .map entries => uptoBulkEntries entries + 1
  | .held _ => 1
def uptoBulkAll {H : Type} : List (DataW H) → Nat
  | [] => 0
  | d :: r => uptoBulk d + uptoBulkAll r
def uptoBulkEntries {H : Type} : List (Lit × DataW H) → Nat
  | [] => 0
  | x :: r => uptoBulkEntry x + uptoBulkEntries r
def uptoBulkEntry {H : Type} : Lit × DataW H → Nat
  | (.string bytes, d) => bytes.length + uptoBulk d + 1
  | (_, d) => uptoBulk d + 1
 end
def uptoSmall : (H : Type) → List (DataW H) → Bool := fun _ ds => decide (uptoBulkAll ds ≤ 1048576)
def OpenSpec.upto (s : _root_.Go.ChangeSpec) : _root_.Go.OpenSpec := { _root_.Go.OpenSpec.ofChange s with cond := some uptoSmall }

/-- 'laws.FnExactGradesValid', WHERE WHAT IT READS IS OF BULK AT MOST 1048576: true; the input reads as it did. -/
def fnExactGradesValidUptoRow : OpenClaim := { program := "yteanpmeelphhbaa", sum := "90e92664ad9caddbacad8d45aae71dfc3d434eb854b5e86b3dab9bad84a8bb0c", func := "loop.example/distanceautomata/laws.FnExactGradesValid", spec := "fnExactGradesValid", apart := false, narrowed := true }
def FnExactGradesValidUptoSaid : Prop := fnExactGradesValidUptoRow.holds Try.pinned (OpenSpec.upto fnExactGradesValidSpec)

/-- 'laws.FnExactGradesOf', WHERE WHAT IT READS IS OF BULK AT MOST 1048576: true; the input reads as it did. -/
def fnExactGradesOfUptoRow : OpenClaim := { program := "yteanpmeelphhbaa", sum := "90e92664ad9caddbacad8d45aae71dfc3d434eb854b5e86b3dab9bad84a8bb0c", func := "loop.example/distanceautomata/laws.FnExactGradesOf", spec := "fnExactGradesOf", apart := false, narrowed := true }
def FnExactGradesOfUptoSaid : Prop := fnExactGradesOfUptoRow.holds Try.pinned (OpenSpec.upto fnExactGradesOfSpec)

/-- 'laws.FnExactMulGrades', WHERE WHAT IT READS IS OF BULK AT MOST 1048576: true; the input reads as it did. -/
def fnExactMulGradesUptoRow : OpenClaim := { program := "yteanpmeelphhbaa", sum := "90e92664ad9caddbacad8d45aae71dfc3d434eb854b5e86b3dab9bad84a8bb0c", func := "loop.example/distanceautomata/laws.FnExactMulGrades", spec := "fnExactMulGrades", unfollowed := true, recurses := true, apart := false, narrowed := true }
def FnExactMulGradesUptoSaid : Prop := fnExactMulGradesUptoRow.holds Try.pinned (OpenSpec.upto fnExactMulGradesSpec)

/-- 'laws.FnExactIsIdempotent', WHERE WHAT IT READS IS OF BULK AT MOST 1048576: true; the input reads as it did. -/
def fnExactIsIdempotentUptoRow : OpenClaim := { program := "yteanpmeelphhbaa", sum := "90e92664ad9caddbacad8d45aae71dfc3d434eb854b5e86b3dab9bad84a8bb0c", func := "loop.example/distanceautomata/laws.FnExactIsIdempotent", spec := "fnExactIsIdempotent", unfollowed := true, recurses := true, apart := false, narrowed := true }
def FnExactIsIdempotentUptoSaid : Prop := fnExactIsIdempotentUptoRow.holds Try.pinned (OpenSpec.upto fnExactIsIdempotentSpec)

/-- 'laws.FnExactStabilise', WHERE WHAT IT READS IS OF BULK AT MOST 1048576: true; the input reads as it did. -/
def fnExactStabiliseUptoRow : OpenClaim := { program := "yteanpmeelphhbaa", sum := "90e92664ad9caddbacad8d45aae71dfc3d434eb854b5e86b3dab9bad84a8bb0c", func := "loop.example/distanceautomata/laws.FnExactStabilise", spec := "fnExactStabilise", unfollowed := true, recurses := true, apart := false, narrowed := true }
def FnExactStabiliseUptoSaid : Prop := fnExactStabiliseUptoRow.holds Try.pinned (OpenSpec.upto fnExactStabiliseSpec)

end Rows
end Go.Proofs.Yteanpmeelphhbaa
