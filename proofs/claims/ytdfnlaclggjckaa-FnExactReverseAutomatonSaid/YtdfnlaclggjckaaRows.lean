/-
  No cell of these rows narrows 'for every input' (looked for: loops, veiled, ifaces, maps, wideKeys, modest, calm, conditions, laid).
  DERIVED. THE GIVEN ROWS OF THIS SEAT. 10 by the template 'for every input the law returns true; each argument reads behind the call as it read before'; 0 by the template 'total and deterministic' (their statements: YtdfnlaclggjckaaTotals.lean).
  GIVEN WITH THE SEED: the statements are not yours to turn. If you find one false, say at which input.
  Laid BY PROGRAM, IN A SANDBOX (cutbox-rows.mjs): the forced cells as the released guide's own fill.sh prints them over the translation cf0523e48a816925… (all of the seat's roots in one cut). By AI agents, Wed Nov 11 2026. No macro, syntax, notation, axiom, sorry.
-/
import Derived.Test.YtdfnlaclggjckaaChecked
import GoSem.Claim
import GoSem.ClaimJoined
import GoSem.ClaimMapViews
import Derived.JoinedTies
import Derived.KernelRfl
namespace Go.Proofs.Ytdfnlaclggjckaa
/- THE CELL 'sum', in the pinned program and in every row, IS THE sha256 OF THE DUMP (.gsa) THAT YtdfnlaclggjckaaProg.lean LOADS. Nothing in Lean hashes anything: it is a label: what it is worth is what the hold of that sum in a sandbox is worth. -/
noncomputable def Try.pinned : Pinned := { name := "ytdfnlaclggjckaa", sum := "cf0523e48a816925d8c71eaa33d019b796b41766d4e5405b0ad9061c28f0df80", checked := Try.checked }
namespace Rows
def none {H : Type} : Left H := { results := [], args := [] }

/-- 'laws.FnExactMinAutomaton': WHATEVER THE INPUT: true; the input reads as it did. -/
def fnExactMinAutomatonSpec : ChangeSpec := { name := "fnExactMinAutomaton", fn := fun _ => fun
  | [d1, d2] => { results := [.lit (.bool true)], args := [d1, d2] }
  | _ => none }
def fnExactMinAutomatonRow : OpenClaim := { program := "ytdfnlaclggjckaa", sum := "cf0523e48a816925d8c71eaa33d019b796b41766d4e5405b0ad9061c28f0df80", func := "loop.example/distanceautomata/laws.FnExactMinAutomaton", spec := "fnExactMinAutomaton", inPlace := ["internal/bytealg.abigen_runtime_cmpstring"], unfollowed := true, recurses := true, plainKeys := false, apart := false }
def FnExactMinAutomatonSaid : Prop := fnExactMinAutomatonRow.holds Try.pinned (OpenSpec.ofChange fnExactMinAutomatonSpec)

/-- ITS FALSE NEIGHBOUR: 'it returns false'. Refute it at one input. -/
def fnExactMinAutomatonWrong : ChangeSpec := { name := "fnExactMinAutomaton", fn := fun _ => fun
  | [d1, d2] => { results := [.lit (.bool false)], args := [d1, d2] }
  | _ => none }
def FnExactMinAutomatonWrongFalsely : Prop := fnExactMinAutomatonRow.holds Try.pinned (OpenSpec.ofChange fnExactMinAutomatonWrong)

/-- 'laws.FnExactSumAutomaton': WHATEVER THE INPUT: true; the input reads as it did. -/
def fnExactSumAutomatonSpec : ChangeSpec := { name := "fnExactSumAutomaton", fn := fun _ => fun
  | [d1, d2] => { results := [.lit (.bool true)], args := [d1, d2] }
  | _ => none }
def fnExactSumAutomatonRow : OpenClaim := { program := "ytdfnlaclggjckaa", sum := "cf0523e48a816925d8c71eaa33d019b796b41766d4e5405b0ad9061c28f0df80", func := "loop.example/distanceautomata/laws.FnExactSumAutomaton", spec := "fnExactSumAutomaton", inPlace := ["internal/bytealg.abigen_runtime_cmpstring"], unfollowed := true, recurses := true, plainKeys := false, apart := false }
def FnExactSumAutomatonSaid : Prop := fnExactSumAutomatonRow.holds Try.pinned (OpenSpec.ofChange fnExactSumAutomatonSpec)

/-- ITS FALSE NEIGHBOUR: 'it returns false'. Refute it at one input. -/
def fnExactSumAutomatonWrong : ChangeSpec := { name := "fnExactSumAutomaton", fn := fun _ => fun
  | [d1, d2] => { results := [.lit (.bool false)], args := [d1, d2] }
  | _ => none }
def FnExactSumAutomatonWrongFalsely : Prop := fnExactSumAutomatonRow.holds Try.pinned (OpenSpec.ofChange fnExactSumAutomatonWrong)

/-- 'laws.FnExactChainAutomaton': WHATEVER THE INPUT: true; the input reads as it did. -/
def fnExactChainAutomatonSpec : ChangeSpec := { name := "fnExactChainAutomaton", fn := fun _ => fun
  | [d1, d2] => { results := [.lit (.bool true)], args := [d1, d2] }
  | _ => none }
def fnExactChainAutomatonRow : OpenClaim := { program := "ytdfnlaclggjckaa", sum := "cf0523e48a816925d8c71eaa33d019b796b41766d4e5405b0ad9061c28f0df80", func := "loop.example/distanceautomata/laws.FnExactChainAutomaton", spec := "fnExactChainAutomaton", inPlace := ["internal/bytealg.abigen_runtime_cmpstring"], unfollowed := true, recurses := true, plainKeys := false, apart := false }
def FnExactChainAutomatonSaid : Prop := fnExactChainAutomatonRow.holds Try.pinned (OpenSpec.ofChange fnExactChainAutomatonSpec)

/-- ITS FALSE NEIGHBOUR: 'it returns false'. Refute it at one input. -/
def fnExactChainAutomatonWrong : ChangeSpec := { name := "fnExactChainAutomaton", fn := fun _ => fun
  | [d1, d2] => { results := [.lit (.bool false)], args := [d1, d2] }
  | _ => none }
def FnExactChainAutomatonWrongFalsely : Prop := fnExactChainAutomatonRow.holds Try.pinned (OpenSpec.ofChange fnExactChainAutomatonWrong)

/-- 'laws.FnExactScaleAutomaton': WHATEVER THE INPUT: true; the input reads as it did. -/
def fnExactScaleAutomatonSpec : ChangeSpec := { name := "fnExactScaleAutomaton", fn := fun _ => fun
  | [d1, d2] => { results := [.lit (.bool true)], args := [d1, d2] }
  | _ => none }
def fnExactScaleAutomatonRow : OpenClaim := { program := "ytdfnlaclggjckaa", sum := "cf0523e48a816925d8c71eaa33d019b796b41766d4e5405b0ad9061c28f0df80", func := "loop.example/distanceautomata/laws.FnExactScaleAutomaton", spec := "fnExactScaleAutomaton", inPlace := ["internal/bytealg.abigen_runtime_cmpstring"], unfollowed := true, recurses := true, plainKeys := false, apart := false }
def FnExactScaleAutomatonSaid : Prop := fnExactScaleAutomatonRow.holds Try.pinned (OpenSpec.ofChange fnExactScaleAutomatonSpec)

/-- ITS FALSE NEIGHBOUR: 'it returns false'. Refute it at one input. -/
def fnExactScaleAutomatonWrong : ChangeSpec := { name := "fnExactScaleAutomaton", fn := fun _ => fun
  | [d1, d2] => { results := [.lit (.bool false)], args := [d1, d2] }
  | _ => none }
def FnExactScaleAutomatonWrongFalsely : Prop := fnExactScaleAutomatonRow.holds Try.pinned (OpenSpec.ofChange fnExactScaleAutomatonWrong)

/-- 'laws.FnExactTrimAutomaton': WHATEVER THE INPUT: true; the input reads as it did. -/
def fnExactTrimAutomatonSpec : ChangeSpec := { name := "fnExactTrimAutomaton", fn := fun _ => fun
  | [d] => { results := [.lit (.bool true)], args := [d] }
  | _ => none }
def fnExactTrimAutomatonRow : OpenClaim := { program := "ytdfnlaclggjckaa", sum := "cf0523e48a816925d8c71eaa33d019b796b41766d4e5405b0ad9061c28f0df80", func := "loop.example/distanceautomata/laws.FnExactTrimAutomaton", spec := "fnExactTrimAutomaton", inPlace := ["internal/bytealg.abigen_runtime_cmpstring"], unfollowed := true, recurses := true, plainKeys := false, apart := false }
def FnExactTrimAutomatonSaid : Prop := fnExactTrimAutomatonRow.holds Try.pinned (OpenSpec.ofChange fnExactTrimAutomatonSpec)

/-- ITS FALSE NEIGHBOUR: 'it returns false'. Refute it at one input. -/
def fnExactTrimAutomatonWrong : ChangeSpec := { name := "fnExactTrimAutomaton", fn := fun _ => fun
  | [d] => { results := [.lit (.bool false)], args := [d] }
  | _ => none }
def FnExactTrimAutomatonWrongFalsely : Prop := fnExactTrimAutomatonRow.holds Try.pinned (OpenSpec.ofChange fnExactTrimAutomatonWrong)

/-- 'laws.FnExactCountAccepted': WHATEVER THE INPUT: true; the input reads as it did. -/
def fnExactCountAcceptedSpec : ChangeSpec := { name := "fnExactCountAccepted", fn := fun _ => fun
  | [d1, d2] => { results := [.lit (.bool true)], args := [d1, d2] }
  | _ => none }
def fnExactCountAcceptedRow : OpenClaim := { program := "ytdfnlaclggjckaa", sum := "cf0523e48a816925d8c71eaa33d019b796b41766d4e5405b0ad9061c28f0df80", func := "loop.example/distanceautomata/laws.FnExactCountAccepted", spec := "fnExactCountAccepted", inPlace := ["internal/bytealg.abigen_runtime_cmpstring", "internal/abi.NoEscape"], unfollowed := true, recurses := true, plainKeys := false, apart := false }
def FnExactCountAcceptedSaid : Prop := fnExactCountAcceptedRow.holds Try.pinned (OpenSpec.ofChange fnExactCountAcceptedSpec)

/-- ITS FALSE NEIGHBOUR: 'it returns false'. Refute it at one input. -/
def fnExactCountAcceptedWrong : ChangeSpec := { name := "fnExactCountAccepted", fn := fun _ => fun
  | [d1, d2] => { results := [.lit (.bool false)], args := [d1, d2] }
  | _ => none }
def FnExactCountAcceptedWrongFalsely : Prop := fnExactCountAcceptedRow.holds Try.pinned (OpenSpec.ofChange fnExactCountAcceptedWrong)

/-- 'laws.FnExactCostliestWord': WHATEVER THE INPUT: true; the input reads as it did. -/
def fnExactCostliestWordSpec : ChangeSpec := { name := "fnExactCostliestWord", fn := fun _ => fun
  | [d1, d2] => { results := [.lit (.bool true)], args := [d1, d2] }
  | _ => none }
def fnExactCostliestWordRow : OpenClaim := { program := "ytdfnlaclggjckaa", sum := "cf0523e48a816925d8c71eaa33d019b796b41766d4e5405b0ad9061c28f0df80", func := "loop.example/distanceautomata/laws.FnExactCostliestWord", spec := "fnExactCostliestWord", inPlace := ["internal/bytealg.abigen_runtime_cmpstring", "internal/abi.NoEscape"], unfollowed := true, recurses := true, plainKeys := false, apart := false }
def FnExactCostliestWordSaid : Prop := fnExactCostliestWordRow.holds Try.pinned (OpenSpec.ofChange fnExactCostliestWordSpec)

/-- ITS FALSE NEIGHBOUR: 'it returns false'. Refute it at one input. -/
def fnExactCostliestWordWrong : ChangeSpec := { name := "fnExactCostliestWord", fn := fun _ => fun
  | [d1, d2] => { results := [.lit (.bool false)], args := [d1, d2] }
  | _ => none }
def FnExactCostliestWordWrongFalsely : Prop := fnExactCostliestWordRow.holds Try.pinned (OpenSpec.ofChange fnExactCostliestWordWrong)

/-- 'laws.FnExactShortWords': WHATEVER THE INPUT: true; the input reads as it did. -/
def fnExactShortWordsSpec : ChangeSpec := { name := "fnExactShortWords", fn := fun _ => fun
  | [d] => { results := [.lit (.bool true)], args := [d] }
  | _ => none }
def fnExactShortWordsRow : OpenClaim := { program := "ytdfnlaclggjckaa", sum := "cf0523e48a816925d8c71eaa33d019b796b41766d4e5405b0ad9061c28f0df80", func := "loop.example/distanceautomata/laws.FnExactShortWords", spec := "fnExactShortWords", inPlace := ["internal/abi.NoEscape"], unfollowed := true, recurses := true, plainKeys := false, apart := false }
def FnExactShortWordsSaid : Prop := fnExactShortWordsRow.holds Try.pinned (OpenSpec.ofChange fnExactShortWordsSpec)

/-- ITS FALSE NEIGHBOUR: 'it returns false'. Refute it at one input. -/
def fnExactShortWordsWrong : ChangeSpec := { name := "fnExactShortWords", fn := fun _ => fun
  | [d] => { results := [.lit (.bool false)], args := [d] }
  | _ => none }
def FnExactShortWordsWrongFalsely : Prop := fnExactShortWordsRow.holds Try.pinned (OpenSpec.ofChange fnExactShortWordsWrong)

/-- 'laws.FnExactReverseAutomaton': WHATEVER THE INPUT: true; the input reads as it did. -/
def fnExactReverseAutomatonSpec : ChangeSpec := { name := "fnExactReverseAutomaton", fn := fun _ => fun
  | [d] => { results := [.lit (.bool true)], args := [d] }
  | _ => none }
def fnExactReverseAutomatonRow : OpenClaim := { program := "ytdfnlaclggjckaa", sum := "cf0523e48a816925d8c71eaa33d019b796b41766d4e5405b0ad9061c28f0df80", func := "loop.example/distanceautomata/laws.FnExactReverseAutomaton", spec := "fnExactReverseAutomaton", inPlace := ["internal/bytealg.abigen_runtime_cmpstring"], unfollowed := true, recurses := true, plainKeys := false, apart := false }
def FnExactReverseAutomatonSaid : Prop := fnExactReverseAutomatonRow.holds Try.pinned (OpenSpec.ofChange fnExactReverseAutomatonSpec)

/-- ITS FALSE NEIGHBOUR: 'it returns false'. Refute it at one input. -/
def fnExactReverseAutomatonWrong : ChangeSpec := { name := "fnExactReverseAutomaton", fn := fun _ => fun
  | [d] => { results := [.lit (.bool false)], args := [d] }
  | _ => none }
def FnExactReverseAutomatonWrongFalsely : Prop := fnExactReverseAutomatonRow.holds Try.pinned (OpenSpec.ofChange fnExactReverseAutomatonWrong)

/-- 'laws.FnExactFreeAutomaton': WHATEVER THE INPUT: true; the input reads as it did. -/
def fnExactFreeAutomatonSpec : ChangeSpec := { name := "fnExactFreeAutomaton", fn := fun _ => fun
  | [d] => { results := [.lit (.bool true)], args := [d] }
  | _ => none }
def fnExactFreeAutomatonRow : OpenClaim := { program := "ytdfnlaclggjckaa", sum := "cf0523e48a816925d8c71eaa33d019b796b41766d4e5405b0ad9061c28f0df80", func := "loop.example/distanceautomata/laws.FnExactFreeAutomaton", spec := "fnExactFreeAutomaton", inPlace := ["internal/bytealg.abigen_runtime_cmpstring"], unfollowed := true, recurses := true, plainKeys := false, apart := false }
def FnExactFreeAutomatonSaid : Prop := fnExactFreeAutomatonRow.holds Try.pinned (OpenSpec.ofChange fnExactFreeAutomatonSpec)

/-- ITS FALSE NEIGHBOUR: 'it returns false'. Refute it at one input. -/
def fnExactFreeAutomatonWrong : ChangeSpec := { name := "fnExactFreeAutomaton", fn := fun _ => fun
  | [d] => { results := [.lit (.bool false)], args := [d] }
  | _ => none }
def FnExactFreeAutomatonWrongFalsely : Prop := fnExactFreeAutomatonRow.holds Try.pinned (OpenSpec.ofChange fnExactFreeAutomatonWrong)

/- THE SECOND FORM. 'bulk': how many values and letters a reading holds, each counted each time it is reached (what is shared counts as often as it is met; a slice's spare places count too). A statement '..UptoSaid' is the law's where the arguments, and the package variables that the reading takes, are together of bulk at most 1048576: NARROWER than '..Said'. Prove '..Said' where nothing that the law and all that it calls make is longer than what came in: it says more and counts as full. Else prove '..UptoSaid'. A law counts once. -/
mutual
def uptoBulk {H : Type} : DataW H → Nat
  | .lit (.string bytes) => bytes.length + 1
  | .lit _ => 1
  | .nil => 1
  | .ptr d => uptoBulk d + 1
  | .slice elems spare => uptoBulkAll elems + uptoBulkAll spare + 1
  | .agg parts => uptoBulkAll parts + 1
  | .iface _ d => uptoBulk d + 1
  | .map entries => uptoBulkEntries entries + 1
  | .held _ => 1
def uptoBulkAll {H : Type} : List (DataW H) → Nat
  | [] => 0
  | d :: r => uptoBulk d + uptoBulkAll r
def uptoBulkEntries {H : Type} : List (Lit × DataW H) → Nat
  | [] => 0
  | x :: r => uptoBulkEntry x + uptoBulkEntries r
def uptoBulkEntry {H : Type} : Lit × DataW H → Nat
  | (.string bytes, d) => bytes.length + uptoBulk d + 1
  | (_, d) => uptoBulk d + 1
 end
def uptoSmall : (H : Type) → List (DataW H) → Bool := fun _ ds => decide (uptoBulkAll ds ≤ 1048576)
def OpenSpec.upto (s : _root_.Go.ChangeSpec) : _root_.Go.OpenSpec := { _root_.Go.OpenSpec.ofChange s with cond := some uptoSmall }

/-- 'laws.FnExactMinAutomaton', WHERE WHAT IT READS IS OF BULK AT MOST 1048576: true; the input reads as it did. -/
def fnExactMinAutomatonUptoRow : OpenClaim := { program := "ytdfnlaclggjckaa", sum := "cf0523e48a816925d8c71eaa33d019b796b41766d4e5405b0ad9061c28f0df80", func := "loop.example/distanceautomata/laws.FnExactMinAutomaton", spec := "fnExactMinAutomaton", inPlace := ["internal/bytealg.abigen_runtime_cmpstring"], unfollowed := true, recurses := true, plainKeys := false, apart := false, narrowed := true }
def FnExactMinAutomatonUptoSaid : Prop := fnExactMinAutomatonUptoRow.holds Try.pinned (OpenSpec.upto fnExactMinAutomatonSpec)

/-- 'laws.FnExactSumAutomaton', WHERE WHAT IT READS IS OF BULK AT MOST 1048576: true; the input reads as it did. -/
def fnExactSumAutomatonUptoRow : OpenClaim := { program := "ytdfnlaclggjckaa", sum := "cf0523e48a816925d8c71eaa33d019b796b41766d4e5405b0ad9061c28f0df80", func := "loop.example/distanceautomata/laws.FnExactSumAutomaton", spec := "fnExactSumAutomaton", inPlace := ["internal/bytealg.abigen_runtime_cmpstring"], unfollowed := true, recurses := true, plainKeys := false, apart := false, narrowed := true }
def FnExactSumAutomatonUptoSaid : Prop := fnExactSumAutomatonUptoRow.holds Try.pinned (OpenSpec.upto fnExactSumAutomatonSpec)

/-- 'laws.FnExactChainAutomaton', WHERE WHAT IT READS IS OF BULK AT MOST 1048576: true; the input reads as it did. -/
def fnExactChainAutomatonUptoRow : OpenClaim := { program := "ytdfnlaclggjckaa", sum := "cf0523e48a816925d8c71eaa33d019b796b41766d4e5405b0ad9061c28f0df80", func := "loop.example/distanceautomata/laws.FnExactChainAutomaton", spec := "fnExactChainAutomaton", inPlace := ["internal/bytealg.abigen_runtime_cmpstring"], unfollowed := true, recurses := true, plainKeys := false, apart := false, narrowed := true }
def FnExactChainAutomatonUptoSaid : Prop := fnExactChainAutomatonUptoRow.holds Try.pinned (OpenSpec.upto fnExactChainAutomatonSpec)

/-- 'laws.FnExactScaleAutomaton', WHERE WHAT IT READS IS OF BULK AT MOST 1048576: true; the input reads as it did. -/
def fnExactScaleAutomatonUptoRow : OpenClaim := { program := "ytdfnlaclggjckaa", sum := "cf0523e48a816925d8c71eaa33d019b796b41766d4e5405b0ad9061c28f0df80", func := "loop.example/distanceautomata/laws.FnExactScaleAutomaton", spec := "fnExactScaleAutomaton", inPlace := ["internal/bytealg.abigen_runtime_cmpstring"], unfollowed := true, recurses := true, plainKeys := false, apart := false, narrowed := true }
def FnExactScaleAutomatonUptoSaid : Prop := fnExactScaleAutomatonUptoRow.holds Try.pinned (OpenSpec.upto fnExactScaleAutomatonSpec)

/-- 'laws.FnExactTrimAutomaton', WHERE WHAT IT READS IS OF BULK AT MOST 1048576: true; the input reads as it did. -/
def fnExactTrimAutomatonUptoRow : OpenClaim := { program := "ytdfnlaclggjckaa", sum := "cf0523e48a816925d8c71eaa33d019b796b41766d4e5405b0ad9061c28f0df80", func := "loop.example/distanceautomata/laws.FnExactTrimAutomaton", spec := "fnExactTrimAutomaton", inPlace := ["internal/bytealg.abigen_runtime_cmpstring"], unfollowed := true, recurses := true, plainKeys := false, apart := false, narrowed := true }
def FnExactTrimAutomatonUptoSaid : Prop := fnExactTrimAutomatonUptoRow.holds Try.pinned (OpenSpec.upto fnExactTrimAutomatonSpec)

/-- 'laws.FnExactCountAccepted', WHERE WHAT IT READS IS OF BULK AT MOST 1048576: true; the input reads as it did. -/
def fnExactCountAcceptedUptoRow : OpenClaim := { program := "ytdfnlaclggjckaa", sum := "cf0523e48a816925d8c71eaa33d019b796b41766d4e5405b0ad9061c28f0df80", func := "loop.example/distanceautomata/laws.FnExactCountAccepted", spec := "fnExactCountAccepted", inPlace := ["internal/bytealg.abigen_runtime_cmpstring", "internal/abi.NoEscape"], unfollowed := true, recurses := true, plainKeys := false, apart := false, narrowed := true }
def FnExactCountAcceptedUptoSaid : Prop := fnExactCountAcceptedUptoRow.holds Try.pinned (OpenSpec.upto fnExactCountAcceptedSpec)

/-- 'laws.FnExactCostliestWord', WHERE WHAT IT READS IS OF BULK AT MOST 1048576: true; the input reads as it did. -/
def fnExactCostliestWordUptoRow : OpenClaim := { program := "ytdfnlaclggjckaa", sum := "cf0523e48a816925d8c71eaa33d019b796b41766d4e5405b0ad9061c28f0df80", func := "loop.example/distanceautomata/laws.FnExactCostliestWord", spec := "fnExactCostliestWord", inPlace := ["internal/bytealg.abigen_runtime_cmpstring", "internal/abi.NoEscape"], unfollowed := true, recurses := true, plainKeys := false, apart := false, narrowed := true }
def FnExactCostliestWordUptoSaid : Prop := fnExactCostliestWordUptoRow.holds Try.pinned (OpenSpec.upto fnExactCostliestWordSpec)

/-- 'laws.FnExactShortWords', WHERE WHAT IT READS IS OF BULK AT MOST 1048576: true; the input reads as it did. -/
def fnExactShortWordsUptoRow : OpenClaim := { program := "ytdfnlaclggjckaa", sum := "cf0523e48a816925d8c71eaa33d019b796b41766d4e5405b0ad9061c28f0df80", func := "loop.example/distanceautomata/laws.FnExactShortWords", spec := "fnExactShortWords", inPlace := ["internal/abi.NoEscape"], unfollowed := true, recurses := true, plainKeys := false, apart := false, narrowed := true }
def FnExactShortWordsUptoSaid : Prop := fnExactShortWordsUptoRow.holds Try.pinned (OpenSpec.upto fnExactShortWordsSpec)

/-- 'laws.FnExactReverseAutomaton', WHERE WHAT IT READS IS OF BULK AT MOST 1048576: true; the input reads as it did. -/
def fnExactReverseAutomatonUptoRow : OpenClaim := { program := "ytdfnlaclggjckaa", sum := "cf0523e48a816925d8c71eaa33d019b796b41766d4e5405b0ad9061c28f0df80", func := "loop.example/distanceautomata/laws.FnExactReverseAutomaton", spec := "fnExactReverseAutomaton", inPlace := ["internal/bytealg.abigen_runtime_cmpstring"], unfollowed := true, recurses := true, plainKeys := false, apart := false, narrowed := true }
def FnExactReverseAutomatonUptoSaid : Prop := fnExactReverseAutomatonUptoRow.holds Try.pinned (OpenSpec.upto fnExactReverseAutomatonSpec)

/-- 'laws.FnExactFreeAutomaton', WHERE WHAT IT READS IS OF BULK AT MOST 1048576: true; the input reads as it did. -/
def fnExactFreeAutomatonUptoRow : OpenClaim := { program := "ytdfnlaclggjckaa", sum := "cf0523e48a816925d8c71eaa33d019b796b41766d4e5405b0ad9061c28f0df80", func := "loop.example/distanceautomata/laws.FnExactFreeAutomaton", spec := "fnExactFreeAutomaton", inPlace := ["internal/bytealg.abigen_runtime_cmpstring"], unfollowed := true, recurses := true, plainKeys := false, apart := false, narrowed := true }
def FnExactFreeAutomatonUptoSaid : Prop := fnExactFreeAutomatonUptoRow.holds Try.pinned (OpenSpec.upto fnExactFreeAutomatonSpec)

end Rows
end Go.Proofs.Ytdfnlaclggjckaa
