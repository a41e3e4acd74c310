/-
  No cell of these rows narrows 'for every input' (looked for: loops, veiled, ifaces, maps, wideKeys, modest, calm, conditions, laid).
  DERIVED. THE GIVEN ROWS OF THIS SEAT. 3 by the template 'for every input the law returns true; each argument reads behind the call as it read before'; 0 by the template 'total and deterministic' (their statements: YtimdknlocfnhoaaTotals.lean).
  GIVEN WITH THE SEED: the statements are not yours to turn. If you find one false, say at which input.
  Laid BY PROGRAM, IN A SANDBOX (cutbox-rows.mjs): the forced cells as the released guide's own fill.sh prints them over the translation b81ccdec70486f54… (all of the seat's roots in one cut). By AI agents, Wed Nov 11 2026. No macro, syntax, notation, axiom, sorry.
-/
import Derived.Test.YtimdknlocfnhoaaChecked
import GoSem.Claim
import GoSem.ClaimJoined
import GoSem.ClaimMapViews
import Derived.JoinedTies
import Derived.KernelRfl
namespace Go.Proofs.Ytimdknlocfnhoaa
/- THE CELL 'sum', in the pinned program and in every row, IS THE sha256 OF THE DUMP (.gsa) THAT YtimdknlocfnhoaaProg.lean LOADS. Nothing in Lean hashes anything: it is a label: what it is worth is what the hold of that sum in a sandbox is worth. -/
noncomputable def Try.pinned : Pinned := { name := "ytimdknlocfnhoaa", sum := "b81ccdec70486f54d8ae19ed8b8b4d61dab4a7861178a192bb1438676e2ec38c", checked := Try.checked }
namespace Rows
def none {H : Type} : Left H := { results := [], args := [] }

/-- 'laws.FnExactShortWords': WHATEVER THE INPUT: true; the input reads as it did. -/
def fnExactShortWordsSpec : ChangeSpec := { name := "fnExactShortWords", fn := fun _ => fun
  | [d] => { results := [.lit (.bool true)], args := [d] }
  | _ => none }
def fnExactShortWordsRow : OpenClaim := { program := "ytimdknlocfnhoaa", sum := "b81ccdec70486f54d8ae19ed8b8b4d61dab4a7861178a192bb1438676e2ec38c", func := "loop.example/distanceautomata/laws.FnExactShortWords", spec := "fnExactShortWords", inPlace := ["internal/abi.NoEscape"], unfollowed := true, recurses := true, plainKeys := false, apart := false }
def FnExactShortWordsSaid : Prop := fnExactShortWordsRow.holds Try.pinned (OpenSpec.ofChange fnExactShortWordsSpec)

/-- ITS FALSE NEIGHBOUR: 'it returns false'. Refute it at one input. -/
def fnExactShortWordsWrong : ChangeSpec := { name := "fnExactShortWords", fn := fun _ => fun
  | [d] => { results := [.lit (.bool false)], args := [d] }
  | _ => none }
def FnExactShortWordsWrongFalsely : Prop := fnExactShortWordsRow.holds Try.pinned (OpenSpec.ofChange fnExactShortWordsWrong)

/-- 'laws.FnExactCostliestWord': WHATEVER THE INPUT: true; the input reads as it did. -/
def fnExactCostliestWordSpec : ChangeSpec := { name := "fnExactCostliestWord", fn := fun _ => fun
  | [d1, d2] => { results := [.lit (.bool true)], args := [d1, d2] }
  | _ => none }
def fnExactCostliestWordRow : OpenClaim := { program := "ytimdknlocfnhoaa", sum := "b81ccdec70486f54d8ae19ed8b8b4d61dab4a7861178a192bb1438676e2ec38c", func := "loop.example/distanceautomata/laws.FnExactCostliestWord", spec := "fnExactCostliestWord", inPlace := ["internal/bytealg.abigen_runtime_cmpstring", "internal/abi.NoEscape"], unfollowed := true, recurses := true, plainKeys := false, apart := false }
def FnExactCostliestWordSaid : Prop := fnExactCostliestWordRow.holds Try.pinned (OpenSpec.ofChange fnExactCostliestWordSpec)

/-- ITS FALSE NEIGHBOUR: 'it returns false'. Refute it at one input. -/
def fnExactCostliestWordWrong : ChangeSpec := { name := "fnExactCostliestWord", fn := fun _ => fun
  | [d1, d2] => { results := [.lit (.bool false)], args := [d1, d2] }
  | _ => none }
def FnExactCostliestWordWrongFalsely : Prop := fnExactCostliestWordRow.holds Try.pinned (OpenSpec.ofChange fnExactCostliestWordWrong)

/-- 'laws.FnExactCountAccepted': WHATEVER THE INPUT: true; the input reads as it did. -/
def fnExactCountAcceptedSpec : ChangeSpec := { name := "fnExactCountAccepted", fn := fun _ => fun
  | [d1, d2] => { results := [.lit (.bool true)], args := [d1, d2] }
  | _ => none }
def fnExactCountAcceptedRow : OpenClaim := { program := "ytimdknlocfnhoaa", sum := "b81ccdec70486f54d8ae19ed8b8b4d61dab4a7861178a192bb1438676e2ec38c", func := "loop.example/distanceautomata/laws.FnExactCountAccepted", spec := "fnExactCountAccepted", inPlace := ["internal/bytealg.abigen_runtime_cmpstring", "internal/abi.NoEscape"], unfollowed := true, recurses := true, plainKeys := false, apart := false }
def FnExactCountAcceptedSaid : Prop := fnExactCountAcceptedRow.holds Try.pinned (OpenSpec.ofChange fnExactCountAcceptedSpec)

/-- ITS FALSE NEIGHBOUR: 'it returns false'. Refute it at one input. -/
def fnExactCountAcceptedWrong : ChangeSpec := { name := "fnExactCountAccepted", fn := fun _ => fun
  | [d1, d2] => { results := [.lit (.bool false)], args := [d1, d2] }
  | _ => none }
def FnExactCountAcceptedWrongFalsely : Prop := fnExactCountAcceptedRow.holds Try.pinned (OpenSpec.ofChange fnExactCountAcceptedWrong)

/- THE SECOND FORM. 'bulk': how many values and letters a reading holds, each counted each time it is reached (what is shared counts as often as it is met; a slice's spare places count too). A statement '..UptoSaid' is the law's where the arguments, and the package variables that the reading takes, are together of bulk at most 1048576: NARROWER than '..Said'. Prove '..Said' where nothing that the law and all that it calls make is longer than what came in: it says more and counts as full. Else prove '..UptoSaid'. A law counts once. -/
mutual
def uptoBulk {H : Type} : DataW H → Nat
  | .lit (.string bytes) => bytes.length + 1
  | .lit _ => 1
  | .nil => 1
  | .ptr d => uptoBulk d + 1
  | .slice elems spare => uptoBulkAll elems + uptoBulkAll spare + 1
  | .agg parts => uptoBulkAll parts + 1
  | .iface _ d => uptoBulk d + 1
  | .map entries => uptoBulkEntries entries + 1
  | .held _ => 1
def uptoBulkAll {H : Type} : List (DataW H) → Nat
  | [] => 0
  | d :: r => uptoBulk d + uptoBulkAll r
def uptoBulkEntries {H : Type} : List (Lit × DataW H) → Nat
  | [] => 0
  | x :: r => uptoBulkEntry x + uptoBulkEntries r
def uptoBulkEntry {H : Type} : Lit × DataW H → Nat
  | (.string bytes, d) => bytes.length + uptoBulk d + 1
  | (_, d) => uptoBulk d + 1
 end
def uptoSmall : (H : Type) → List (DataW H) → Bool := fun _ ds => decide (uptoBulkAll ds ≤ 1048576)
def OpenSpec.upto (s : _root_.Go.ChangeSpec) : _root_.Go.OpenSpec := { _root_.Go.OpenSpec.ofChange s with cond := some uptoSmall }

/-- 'laws.FnExactShortWords', WHERE WHAT IT READS IS OF BULK AT MOST 1048576: true; the input reads as it did. -/
def fnExactShortWordsUptoRow : OpenClaim := { program := "ytimdknlocfnhoaa", sum := "b81ccdec70486f54d8ae19ed8b8b4d61dab4a7861178a192bb1438676e2ec38c", func := "loop.example/distanceautomata/laws.FnExactShortWords", spec := "fnExactShortWords", inPlace := ["internal/abi.NoEscape"], unfollowed := true, recurses := true, plainKeys := false, apart := false, narrowed := true }
def FnExactShortWordsUptoSaid : Prop := fnExactShortWordsUptoRow.holds Try.pinned (OpenSpec.upto fnExactShortWordsSpec)

/-- 'laws.FnExactCostliestWord', WHERE WHAT IT READS IS OF BULK AT MOST 1048576: true; the input reads as it did. -/
def fnExactCostliestWordUptoRow : OpenClaim := { program := "ytimdknlocfnhoaa", sum := "b81ccdec70486f54d8ae19ed8b8b4d61dab4a7861178a192bb1438676e2ec38c", func := "loop.example/distanceautomata/laws.FnExactCostliestWord", spec := "fnExactCostliestWord", inPlace := ["internal/bytealg.abigen_runtime_cmpstring", "internal/abi.NoEscape"], unfollowed := true, recurses := true, plainKeys := false, apart := false, narrowed := true }
def FnExactCostliestWordUptoSaid : Prop := fnExactCostliestWordUptoRow.holds Try.pinned (OpenSpec.upto fnExactCostliestWordSpec)

/-- 'laws.FnExactCountAccepted', WHERE WHAT IT READS IS OF BULK AT MOST 1048576: true; the input reads as it did. -/
def fnExactCountAcceptedUptoRow : OpenClaim := { program := "ytimdknlocfnhoaa", sum := "b81ccdec70486f54d8ae19ed8b8b4d61dab4a7861178a192bb1438676e2ec38c", func := "loop.example/distanceautomata/laws.FnExactCountAccepted", spec := "fnExactCountAccepted", inPlace := ["internal/bytealg.abigen_runtime_cmpstring", "internal/abi.NoEscape"], unfollowed := true, recurses := true, plainKeys := false, apart := false, narrowed := true }
def FnExactCountAcceptedUptoSaid : Prop := fnExactCountAcceptedUptoRow.holds Try.pinned (OpenSpec.upto fnExactCountAcceptedSpec)

end Rows
end Go.Proofs.Ytimdknlocfnhoaa
