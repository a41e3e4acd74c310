/-
  No cell of these rows narrows 'for every input' (looked for: loops, veiled, ifaces, maps, wideKeys, modest, calm, conditions, laid).
  DERIVED. THE GIVEN ROWS OF THIS SEAT. 5 by the template 'for every input the law returns true; each argument reads behind the call as it read before'; 0 by the template 'total and deterministic' (their statements: YtefjeccnkfmgeaaTotals.lean).
  GIVEN WITH THE SEED: the statements are not yours to turn. If you find one false, say at which input.
  Laid BY PROGRAM, IN A SANDBOX (cutbox-rows.mjs): the forced cells as the released guide's own fill.sh prints them over the translation a625a98155042375… (all of the seat's roots in one cut). By AI agents, Wed Nov 11 2026. No macro, syntax, notation, axiom, sorry.
-/
import Derived.Test.YtefjeccnkfmgeaaChecked
import GoSem.Claim
import GoSem.ClaimJoined
import GoSem.ClaimMapViews
import Derived.JoinedTies
import Derived.KernelRfl
namespace Go.Proofs.Ytefjeccnkfmgeaa
/- THE CELL 'sum', in the pinned program and in every row, IS THE sha256 OF THE DUMP (.gsa) THAT YtefjeccnkfmgeaaProg.lean LOADS. Nothing in Lean hashes anything: it is a label: what it is worth is what the hold of that sum in a sandbox is worth. -/
noncomputable def Try.pinned : Pinned := { name := "ytefjeccnkfmgeaa", sum := "a625a9815504237505cb473a9c4c6c5f592b99a0b45f6f4ebaa9c6b1e97bc8dc", checked := Try.checked }
namespace Rows
def none {H : Type} : Left H := { results := [], args := [] }

/-- 'laws.FnExactExpressionValid': WHATEVER THE INPUT: true; the input reads as it did. -/
def fnExactExpressionValidSpec : ChangeSpec := { name := "fnExactExpressionValid", fn := fun _ => fun
  | [d] => { results := [.lit (.bool true)], args := [d] }
  | _ => none }
def fnExactExpressionValidRow : OpenClaim := { program := "ytefjeccnkfmgeaa", sum := "a625a9815504237505cb473a9c4c6c5f592b99a0b45f6f4ebaa9c6b1e97bc8dc", func := "loop.example/distanceautomata/laws.FnExactExpressionValid", spec := "fnExactExpressionValid", unfollowed := true, recurses := true, apart := false }
def FnExactExpressionValidSaid : Prop := fnExactExpressionValidRow.holds Try.pinned (OpenSpec.ofChange fnExactExpressionValidSpec)

/-- ITS FALSE NEIGHBOUR: 'it returns false'. Refute it at one input. -/
def fnExactExpressionValidWrong : ChangeSpec := { name := "fnExactExpressionValid", fn := fun _ => fun
  | [d] => { results := [.lit (.bool false)], args := [d] }
  | _ => none }
def FnExactExpressionValidWrongFalsely : Prop := fnExactExpressionValidRow.holds Try.pinned (OpenSpec.ofChange fnExactExpressionValidWrong)

/-- 'laws.FnExactDepthOf': WHATEVER THE INPUT: true; the input reads as it did. -/
def fnExactDepthOfSpec : ChangeSpec := { name := "fnExactDepthOf", fn := fun _ => fun
  | [d] => { results := [.lit (.bool true)], args := [d] }
  | _ => none }
def fnExactDepthOfRow : OpenClaim := { program := "ytefjeccnkfmgeaa", sum := "a625a9815504237505cb473a9c4c6c5f592b99a0b45f6f4ebaa9c6b1e97bc8dc", func := "loop.example/distanceautomata/laws.FnExactDepthOf", spec := "fnExactDepthOf", unfollowed := true, recurses := true, apart := false }
def FnExactDepthOfSaid : Prop := fnExactDepthOfRow.holds Try.pinned (OpenSpec.ofChange fnExactDepthOfSpec)

/-- ITS FALSE NEIGHBOUR: 'it returns false'. Refute it at one input. -/
def fnExactDepthOfWrong : ChangeSpec := { name := "fnExactDepthOf", fn := fun _ => fun
  | [d] => { results := [.lit (.bool false)], args := [d] }
  | _ => none }
def FnExactDepthOfWrongFalsely : Prop := fnExactDepthOfRow.holds Try.pinned (OpenSpec.ofChange fnExactDepthOfWrong)

/-- 'laws.FnExactExpandExpression': WHATEVER THE INPUT: true; the input reads as it did. -/
def fnExactExpandExpressionSpec : ChangeSpec := { name := "fnExactExpandExpression", fn := fun _ => fun
  | [d1, d2] => { results := [.lit (.bool true)], args := [d1, d2] }
  | _ => none }
def fnExactExpandExpressionRow : OpenClaim := { program := "ytefjeccnkfmgeaa", sum := "a625a9815504237505cb473a9c4c6c5f592b99a0b45f6f4ebaa9c6b1e97bc8dc", func := "loop.example/distanceautomata/laws.FnExactExpandExpression", spec := "fnExactExpandExpression", unfollowed := true, recurses := true, apart := false }
def FnExactExpandExpressionSaid : Prop := fnExactExpandExpressionRow.holds Try.pinned (OpenSpec.ofChange fnExactExpandExpressionSpec)

/-- ITS FALSE NEIGHBOUR: 'it returns false'. Refute it at one input. -/
def fnExactExpandExpressionWrong : ChangeSpec := { name := "fnExactExpandExpression", fn := fun _ => fun
  | [d1, d2] => { results := [.lit (.bool false)], args := [d1, d2] }
  | _ => none }
def FnExactExpandExpressionWrongFalsely : Prop := fnExactExpandExpressionRow.holds Try.pinned (OpenSpec.ofChange fnExactExpandExpressionWrong)

/-- 'laws.FnExactBoundOf': WHATEVER THE INPUT: true; the input reads as it did. -/
def fnExactBoundOfSpec : ChangeSpec := { name := "fnExactBoundOf", fn := fun _ => fun
  | [d] => { results := [.lit (.bool true)], args := [d] }
  | _ => none }
def fnExactBoundOfRow : OpenClaim := { program := "ytefjeccnkfmgeaa", sum := "a625a9815504237505cb473a9c4c6c5f592b99a0b45f6f4ebaa9c6b1e97bc8dc", func := "loop.example/distanceautomata/laws.FnExactBoundOf", spec := "fnExactBoundOf", unfollowed := true, recurses := true, apart := false }
def FnExactBoundOfSaid : Prop := fnExactBoundOfRow.holds Try.pinned (OpenSpec.ofChange fnExactBoundOfSpec)

/-- ITS FALSE NEIGHBOUR: 'it returns false'. Refute it at one input. -/
def fnExactBoundOfWrong : ChangeSpec := { name := "fnExactBoundOf", fn := fun _ => fun
  | [d] => { results := [.lit (.bool false)], args := [d] }
  | _ => none }
def FnExactBoundOfWrongFalsely : Prop := fnExactBoundOfRow.holds Try.pinned (OpenSpec.ofChange fnExactBoundOfWrong)

/-- 'laws.FnExactRepeatExpression': WHATEVER THE INPUT: true; the input reads as it did. -/
def fnExactRepeatExpressionSpec : ChangeSpec := { name := "fnExactRepeatExpression", fn := fun _ => fun
  | [d] => { results := [.lit (.bool true)], args := [d] }
  | _ => none }
def fnExactRepeatExpressionRow : OpenClaim := { program := "ytefjeccnkfmgeaa", sum := "a625a9815504237505cb473a9c4c6c5f592b99a0b45f6f4ebaa9c6b1e97bc8dc", func := "loop.example/distanceautomata/laws.FnExactRepeatExpression", spec := "fnExactRepeatExpression", unfollowed := true, recurses := true, apart := false }
def FnExactRepeatExpressionSaid : Prop := fnExactRepeatExpressionRow.holds Try.pinned (OpenSpec.ofChange fnExactRepeatExpressionSpec)

/-- ITS FALSE NEIGHBOUR: 'it returns false'. Refute it at one input. -/
def fnExactRepeatExpressionWrong : ChangeSpec := { name := "fnExactRepeatExpression", fn := fun _ => fun
  | [d] => { results := [.lit (.bool false)], args := [d] }
  | _ => none }
def FnExactRepeatExpressionWrongFalsely : Prop := fnExactRepeatExpressionRow.holds Try.pinned (OpenSpec.ofChange fnExactRepeatExpressionWrong)

/- THE SECOND FORM. 'bulk': how many values and letters a reading holds, each counted each time it is reached (what is shared counts as often as it is met; a slice's spare places count too). A statement '..UptoSaid' is the law's where the arguments, and the package variables that the reading takes, are together of bulk at most 1048576: NARROWER than '..Said'. Prove '..Said' where nothing that the law and all that it calls make is longer than what came in: it says more and counts as full. Else prove '..UptoSaid'. A law counts once. -/
mutual
def uptoBulk {H : Type} : DataW H → Nat
  | .lit (.string bytes) => bytes.length + 1
  | .lit _ => 1
  | .nil => 1
  | .ptr d => uptoBulk d + 1
  | .slice elems spare => uptoBulkAll elems + uptoBulkAll spare + 1
  | .agg parts => uptoBulkAll parts + 1
  | .iface _ d => uptoBulk d + 1
  | .map entries => uptoBulkEntries entries + 1
  | .held _ => 1
def uptoBulkAll {H : Type} : List (DataW H) → Nat
  | [] => 0
  | d :: r => uptoBulk d + uptoBulkAll r
def uptoBulkEntries {H : Type} : List (Lit × DataW H) → Nat
  | [] => 0
  | x :: r => uptoBulkEntry x + uptoBulkEntries r
def uptoBulkEntry {H : Type} : Lit × DataW H → Nat
  | (.string bytes, d) => bytes.length + uptoBulk d + 1
  | (_, d) => uptoBulk d + 1
 end
def uptoSmall : (H : Type) → List (DataW H) → Bool := fun _ ds => decide (uptoBulkAll ds ≤ 1048576)
def OpenSpec.upto (s : _root_.Go.ChangeSpec) : _root_.Go.OpenSpec := { _root_.Go.OpenSpec.ofChange s with cond := some uptoSmall }

/-- 'laws.FnExactExpressionValid', WHERE WHAT IT READS IS OF BULK AT MOST 1048576: true; the input reads as it did. -/
def fnExactExpressionValidUptoRow : OpenClaim := { program := "ytefjeccnkfmgeaa", sum := "a625a9815504237505cb473a9c4c6c5f592b99a0b45f6f4ebaa9c6b1e97bc8dc", func := "loop.example/distanceautomata/laws.FnExactExpressionValid", spec := "fnExactExpressionValid", unfollowed := true, recurses := true, apart := false, narrowed := true }
def FnExactExpressionValidUptoSaid : Prop := fnExactExpressionValidUptoRow.holds Try.pinned (OpenSpec.upto fnExactExpressionValidSpec)

/-- 'laws.FnExactDepthOf', WHERE WHAT IT READS IS OF BULK AT MOST 1048576: true; the input reads as it did. -/
def fnExactDepthOfUptoRow : OpenClaim := { program := "ytefjeccnkfmgeaa", sum := "a625a9815504237505cb473a9c4c6c5f592b99a0b45f6f4ebaa9c6b1e97bc8dc", func := "loop.example/distanceautomata/laws.FnExactDepthOf", spec := "fnExactDepthOf", unfollowed := true, recurses := true, apart := false, narrowed := true }
def FnExactDepthOfUptoSaid : Prop := fnExactDepthOfUptoRow.holds Try.pinned (OpenSpec.upto fnExactDepthOfSpec)

/-- 'laws.FnExactExpandExpression', WHERE WHAT IT READS IS OF BULK AT MOST 1048576: true; the input reads as it did. -/
def fnExactExpandExpressionUptoRow : OpenClaim := { program := "ytefjeccnkfmgeaa", sum := "a625a9815504237505cb473a9c4c6c5f592b99a0b45f6f4ebaa9c6b1e97bc8dc", func := "loop.example/distanceautomata/laws.FnExactExpandExpression", spec := "fnExactExpandExpression", unfollowed := true, recurses := true, apart := false, narrowed := true }
def FnExactExpandExpressionUptoSaid : Prop := fnExactExpandExpressionUptoRow.holds Try.pinned (OpenSpec.upto fnExactExpandExpressionSpec)

/-- 'laws.FnExactBoundOf', WHERE WHAT IT READS IS OF BULK AT MOST 1048576: true; the input reads as it did. -/
def fnExactBoundOfUptoRow : OpenClaim := { program := "ytefjeccnkfmgeaa", sum := "a625a9815504237505cb473a9c4c6c5f592b99a0b45f6f4ebaa9c6b1e97bc8dc", func := "loop.example/distanceautomata/laws.FnExactBoundOf", spec := "fnExactBoundOf", unfollowed := true, recurses := true, apart := false, narrowed := true }
def FnExactBoundOfUptoSaid : Prop := fnExactBoundOfUptoRow.holds Try.pinned (OpenSpec.upto fnExactBoundOfSpec)

/-- 'laws.FnExactRepeatExpression', WHERE WHAT IT READS IS OF BULK AT MOST 1048576: true; the input reads as it did. -/
def fnExactRepeatExpressionUptoRow : OpenClaim := { program := "ytefjeccnkfmgeaa", sum := "a625a9815504237505cb473a9c4c6c5f592b99a0b45f6f4ebaa9c6b1e97bc8dc", func := "loop.example/distanceautomata/laws.FnExactRepeatExpression", spec := "fnExactRepeatExpression", unfollowed := true, recurses := true, apart := false, narrowed := true }
def FnExactRepeatExpressionUptoSaid : Prop := fnExactRepeatExpressionUptoRow.holds Try.pinned (OpenSpec.upto fnExactRepeatExpressionSpec)

end Rows
end Go.Proofs.Ytefjeccnkfmgeaa
