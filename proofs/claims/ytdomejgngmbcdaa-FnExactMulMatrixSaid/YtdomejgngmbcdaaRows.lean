/-
  No cell of these rows narrows 'for every input' (looked for: loops, veiled, ifaces, maps, wideKeys, modest, calm, conditions, laid).
  DERIVED. THE GIVEN ROWS OF THIS SEAT. 12 by the template 'for every input the law returns true; each argument reads behind the call as it read before'; 0 by the template 'total and deterministic' (their statements: YtdomejgngmbcdaaTotals.lean).
  GIVEN WITH THE SEED: the statements are not yours to turn. If you find one false, say at which input.
  Laid BY PROGRAM, IN A SANDBOX (cutbox-rows.mjs): the forced cells as the released guide's own fill.sh prints them over the translation 5b179b7b69126e0a… (all of the seat's roots in one cut). By AI agents, Wed Nov 11 2026. No macro, syntax, notation, axiom, sorry.
-/
import Derived.Test.YtdomejgngmbcdaaChecked
import GoSem.Claim
import GoSem.ClaimJoined
import GoSem.ClaimMapViews
import Derived.JoinedTies
import Derived.KernelRfl
namespace Go.Proofs.Ytdomejgngmbcdaa
/- THE CELL 'sum', in the pinned program and in every row, IS THE sha256 OF THE DUMP (.gsa) THAT YtdomejgngmbcdaaProg.lean LOADS. Nothing in Lean hashes anything: it is a label: what it is worth is what the hold of that sum in a sandbox is worth. -/
noncomputable def Try.pinned : Pinned := { name := "ytdomejgngmbcdaa", sum := "5b179b7b69126e0abc5bec190a1e8cf34597242c8fe280b75e18bca2e3c7712b", checked := Try.checked }
namespace Rows
def none {H : Type} : Left H := { results := [], args := [] }

/-- 'laws.FnMulMatrix': WHATEVER THE INPUT: true; the input reads as it did. -/
def fnMulMatrixSpec : ChangeSpec := { name := "fnMulMatrix", fn := fun _ => fun
  | [d1, d2] => { results := [.lit (.bool true)], args := [d1, d2] }
  | _ => none }
def fnMulMatrixRow : OpenClaim := { program := "ytdomejgngmbcdaa", sum := "5b179b7b69126e0abc5bec190a1e8cf34597242c8fe280b75e18bca2e3c7712b", func := "loop.example/distanceautomata/laws.FnMulMatrix", spec := "fnMulMatrix", unfollowed := true, recurses := true, leaving := true, apart := false }
def FnMulMatrixSaid : Prop := fnMulMatrixRow.holds Try.pinned (OpenSpec.ofChange fnMulMatrixSpec)

/-- ITS FALSE NEIGHBOUR: 'it returns false'. Refute it at one input. -/
def fnMulMatrixWrong : ChangeSpec := { name := "fnMulMatrix", fn := fun _ => fun
  | [d1, d2] => { results := [.lit (.bool false)], args := [d1, d2] }
  | _ => none }
def FnMulMatrixWrongFalsely : Prop := fnMulMatrixRow.holds Try.pinned (OpenSpec.ofChange fnMulMatrixWrong)

/-- 'laws.FnMinMatrix': WHATEVER THE INPUT: true; the input reads as it did. -/
def fnMinMatrixSpec : ChangeSpec := { name := "fnMinMatrix", fn := fun _ => fun
  | [d1, d2] => { results := [.lit (.bool true)], args := [d1, d2] }
  | _ => none }
def fnMinMatrixRow : OpenClaim := { program := "ytdomejgngmbcdaa", sum := "5b179b7b69126e0abc5bec190a1e8cf34597242c8fe280b75e18bca2e3c7712b", func := "loop.example/distanceautomata/laws.FnMinMatrix", spec := "fnMinMatrix", unfollowed := true, recurses := true, leaving := true, apart := false }
def FnMinMatrixSaid : Prop := fnMinMatrixRow.holds Try.pinned (OpenSpec.ofChange fnMinMatrixSpec)

/-- ITS FALSE NEIGHBOUR: 'it returns false'. Refute it at one input. -/
def fnMinMatrixWrong : ChangeSpec := { name := "fnMinMatrix", fn := fun _ => fun
  | [d1, d2] => { results := [.lit (.bool false)], args := [d1, d2] }
  | _ => none }
def FnMinMatrixWrongFalsely : Prop := fnMinMatrixRow.holds Try.pinned (OpenSpec.ofChange fnMinMatrixWrong)

/-- 'laws.FnPowerMatrix': WHATEVER THE INPUT: true; the input reads as it did. -/
def fnPowerMatrixSpec : ChangeSpec := { name := "fnPowerMatrix", fn := fun _ => fun
  | [d1, d2] => { results := [.lit (.bool true)], args := [d1, d2] }
  | _ => none }
def fnPowerMatrixRow : OpenClaim := { program := "ytdomejgngmbcdaa", sum := "5b179b7b69126e0abc5bec190a1e8cf34597242c8fe280b75e18bca2e3c7712b", func := "loop.example/distanceautomata/laws.FnPowerMatrix", spec := "fnPowerMatrix", inPlace := ["(*sync.WaitGroup).Add", "internal/race.ReleaseMerge", "internal/race.Disable", "internal/race.Enable", "internal/synctest.IsInBubble", "internal/synctest.Associate[sync.WaitGroup]", "sync.fatal", "sync/atomic.OrUint64", "sync/atomic.AddUint64", "internal/race.Read", "sync/atomic.LoadUint64", "sync/atomic.StoreUint64", "internal/synctest.Disassociate[sync.WaitGroup]", "sync.runtime_Semrelease", "(*sync.WaitGroup).Done", "(*sync.WaitGroup).Wait", "internal/race.Acquire", "internal/synctest.IsAssociated[sync.WaitGroup]", "sync/atomic.CompareAndSwapUint64", "internal/race.Write", "sync.runtime_SemacquireWaitGroup"], unfollowed := true, recurses := true, leaving := true, apart := false }
def FnPowerMatrixSaid : Prop := fnPowerMatrixRow.holds Try.pinned (OpenSpec.ofChange fnPowerMatrixSpec)

/-- ITS FALSE NEIGHBOUR: 'it returns false'. Refute it at one input. -/
def fnPowerMatrixWrong : ChangeSpec := { name := "fnPowerMatrix", fn := fun _ => fun
  | [d1, d2] => { results := [.lit (.bool false)], args := [d1, d2] }
  | _ => none }
def FnPowerMatrixWrongFalsely : Prop := fnPowerMatrixRow.holds Try.pinned (OpenSpec.ofChange fnPowerMatrixWrong)

/-- 'laws.FnStarMatrix': WHATEVER THE INPUT: true; the input reads as it did. -/
def fnStarMatrixSpec : ChangeSpec := { name := "fnStarMatrix", fn := fun _ => fun
  | [d] => { results := [.lit (.bool true)], args := [d] }
  | _ => none }
def fnStarMatrixRow : OpenClaim := { program := "ytdomejgngmbcdaa", sum := "5b179b7b69126e0abc5bec190a1e8cf34597242c8fe280b75e18bca2e3c7712b", func := "loop.example/distanceautomata/laws.FnStarMatrix", spec := "fnStarMatrix", inPlace := ["(*sync.WaitGroup).Add", "internal/race.ReleaseMerge", "internal/race.Disable", "internal/race.Enable", "internal/synctest.IsInBubble", "internal/synctest.Associate[sync.WaitGroup]", "sync.fatal", "sync/atomic.OrUint64", "sync/atomic.AddUint64", "internal/race.Read", "sync/atomic.LoadUint64", "sync/atomic.StoreUint64", "internal/synctest.Disassociate[sync.WaitGroup]", "sync.runtime_Semrelease", "(*sync.WaitGroup).Done", "(*sync.WaitGroup).Wait", "internal/race.Acquire", "internal/synctest.IsAssociated[sync.WaitGroup]", "sync/atomic.CompareAndSwapUint64", "internal/race.Write", "sync.runtime_SemacquireWaitGroup"], unfollowed := true, recurses := true, leaving := true, apart := false }
def FnStarMatrixSaid : Prop := fnStarMatrixRow.holds Try.pinned (OpenSpec.ofChange fnStarMatrixSpec)

/-- ITS FALSE NEIGHBOUR: 'it returns false'. Refute it at one input. -/
def fnStarMatrixWrong : ChangeSpec := { name := "fnStarMatrix", fn := fun _ => fun
  | [d] => { results := [.lit (.bool false)], args := [d] }
  | _ => none }
def FnStarMatrixWrongFalsely : Prop := fnStarMatrixRow.holds Try.pinned (OpenSpec.ofChange fnStarMatrixWrong)

/-- 'laws.FnExactMatrixValid': WHATEVER THE INPUT: true; the input reads as it did. -/
def fnExactMatrixValidSpec : ChangeSpec := { name := "fnExactMatrixValid", fn := fun _ => fun
  | [d] => { results := [.lit (.bool true)], args := [d] }
  | _ => none }
def fnExactMatrixValidRow : OpenClaim := { program := "ytdomejgngmbcdaa", sum := "5b179b7b69126e0abc5bec190a1e8cf34597242c8fe280b75e18bca2e3c7712b", func := "loop.example/distanceautomata/laws.FnExactMatrixValid", spec := "fnExactMatrixValid", apart := false }
def FnExactMatrixValidSaid : Prop := fnExactMatrixValidRow.holds Try.pinned (OpenSpec.ofChange fnExactMatrixValidSpec)

/-- ITS FALSE NEIGHBOUR: 'it returns false'. Refute it at one input. -/
def fnExactMatrixValidWrong : ChangeSpec := { name := "fnExactMatrixValid", fn := fun _ => fun
  | [d] => { results := [.lit (.bool false)], args := [d] }
  | _ => none }
def FnExactMatrixValidWrongFalsely : Prop := fnExactMatrixValidRow.holds Try.pinned (OpenSpec.ofChange fnExactMatrixValidWrong)

/-- 'laws.FnExactUnitMatrix': WHATEVER THE INPUT: true; the input reads as it did. -/
def fnExactUnitMatrixSpec : ChangeSpec := { name := "fnExactUnitMatrix", fn := fun _ => fun
  | [d] => { results := [.lit (.bool true)], args := [d] }
  | _ => none }
def fnExactUnitMatrixRow : OpenClaim := { program := "ytdomejgngmbcdaa", sum := "5b179b7b69126e0abc5bec190a1e8cf34597242c8fe280b75e18bca2e3c7712b", func := "loop.example/distanceautomata/laws.FnExactUnitMatrix", spec := "fnExactUnitMatrix", apart := false }
def FnExactUnitMatrixSaid : Prop := fnExactUnitMatrixRow.holds Try.pinned (OpenSpec.ofChange fnExactUnitMatrixSpec)

/-- ITS FALSE NEIGHBOUR: 'it returns false'. Refute it at one input. -/
def fnExactUnitMatrixWrong : ChangeSpec := { name := "fnExactUnitMatrix", fn := fun _ => fun
  | [d] => { results := [.lit (.bool false)], args := [d] }
  | _ => none }
def FnExactUnitMatrixWrongFalsely : Prop := fnExactUnitMatrixRow.holds Try.pinned (OpenSpec.ofChange fnExactUnitMatrixWrong)

/-- 'laws.FnExactMulMatrix': WHATEVER THE INPUT: true; the input reads as it did. -/
def fnExactMulMatrixSpec : ChangeSpec := { name := "fnExactMulMatrix", fn := fun _ => fun
  | [d1, d2] => { results := [.lit (.bool true)], args := [d1, d2] }
  | _ => none }
def fnExactMulMatrixRow : OpenClaim := { program := "ytdomejgngmbcdaa", sum := "5b179b7b69126e0abc5bec190a1e8cf34597242c8fe280b75e18bca2e3c7712b", func := "loop.example/distanceautomata/laws.FnExactMulMatrix", spec := "fnExactMulMatrix", unfollowed := true, recurses := true, leaving := true, apart := false }
def FnExactMulMatrixSaid : Prop := fnExactMulMatrixRow.holds Try.pinned (OpenSpec.ofChange fnExactMulMatrixSpec)

/-- ITS FALSE NEIGHBOUR: 'it returns false'. Refute it at one input. -/
def fnExactMulMatrixWrong : ChangeSpec := { name := "fnExactMulMatrix", fn := fun _ => fun
  | [d1, d2] => { results := [.lit (.bool false)], args := [d1, d2] }
  | _ => none }
def FnExactMulMatrixWrongFalsely : Prop := fnExactMulMatrixRow.holds Try.pinned (OpenSpec.ofChange fnExactMulMatrixWrong)

/-- 'laws.FnExactMinMatrix': WHATEVER THE INPUT: true; the input reads as it did. -/
def fnExactMinMatrixSpec : ChangeSpec := { name := "fnExactMinMatrix", fn := fun _ => fun
  | [d1, d2] => { results := [.lit (.bool true)], args := [d1, d2] }
  | _ => none }
def fnExactMinMatrixRow : OpenClaim := { program := "ytdomejgngmbcdaa", sum := "5b179b7b69126e0abc5bec190a1e8cf34597242c8fe280b75e18bca2e3c7712b", func := "loop.example/distanceautomata/laws.FnExactMinMatrix", spec := "fnExactMinMatrix", unfollowed := true, recurses := true, leaving := true, apart := false }
def FnExactMinMatrixSaid : Prop := fnExactMinMatrixRow.holds Try.pinned (OpenSpec.ofChange fnExactMinMatrixSpec)

/-- ITS FALSE NEIGHBOUR: 'it returns false'. Refute it at one input. -/
def fnExactMinMatrixWrong : ChangeSpec := { name := "fnExactMinMatrix", fn := fun _ => fun
  | [d1, d2] => { results := [.lit (.bool false)], args := [d1, d2] }
  | _ => none }
def FnExactMinMatrixWrongFalsely : Prop := fnExactMinMatrixRow.holds Try.pinned (OpenSpec.ofChange fnExactMinMatrixWrong)

/-- 'laws.FnExactPowerMatrix': WHATEVER THE INPUT: true; the input reads as it did. -/
def fnExactPowerMatrixSpec : ChangeSpec := { name := "fnExactPowerMatrix", fn := fun _ => fun
  | [d1, d2] => { results := [.lit (.bool true)], args := [d1, d2] }
  | _ => none }
def fnExactPowerMatrixRow : OpenClaim := { program := "ytdomejgngmbcdaa", sum := "5b179b7b69126e0abc5bec190a1e8cf34597242c8fe280b75e18bca2e3c7712b", func := "loop.example/distanceautomata/laws.FnExactPowerMatrix", spec := "fnExactPowerMatrix", inPlace := ["(*sync.WaitGroup).Add", "internal/race.ReleaseMerge", "internal/race.Disable", "internal/race.Enable", "internal/synctest.IsInBubble", "internal/synctest.Associate[sync.WaitGroup]", "sync.fatal", "sync/atomic.OrUint64", "sync/atomic.AddUint64", "internal/race.Read", "sync/atomic.LoadUint64", "sync/atomic.StoreUint64", "internal/synctest.Disassociate[sync.WaitGroup]", "sync.runtime_Semrelease", "(*sync.WaitGroup).Done", "(*sync.WaitGroup).Wait", "internal/race.Acquire", "internal/synctest.IsAssociated[sync.WaitGroup]", "sync/atomic.CompareAndSwapUint64", "internal/race.Write", "sync.runtime_SemacquireWaitGroup"], unfollowed := true, recurses := true, leaving := true, apart := false }
def FnExactPowerMatrixSaid : Prop := fnExactPowerMatrixRow.holds Try.pinned (OpenSpec.ofChange fnExactPowerMatrixSpec)

/-- ITS FALSE NEIGHBOUR: 'it returns false'. Refute it at one input. -/
def fnExactPowerMatrixWrong : ChangeSpec := { name := "fnExactPowerMatrix", fn := fun _ => fun
  | [d1, d2] => { results := [.lit (.bool false)], args := [d1, d2] }
  | _ => none }
def FnExactPowerMatrixWrongFalsely : Prop := fnExactPowerMatrixRow.holds Try.pinned (OpenSpec.ofChange fnExactPowerMatrixWrong)

/-- 'laws.FnExactStarMatrix': WHATEVER THE INPUT: true; the input reads as it did. -/
def fnExactStarMatrixSpec : ChangeSpec := { name := "fnExactStarMatrix", fn := fun _ => fun
  | [d] => { results := [.lit (.bool true)], args := [d] }
  | _ => none }
def fnExactStarMatrixRow : OpenClaim := { program := "ytdomejgngmbcdaa", sum := "5b179b7b69126e0abc5bec190a1e8cf34597242c8fe280b75e18bca2e3c7712b", func := "loop.example/distanceautomata/laws.FnExactStarMatrix", spec := "fnExactStarMatrix", inPlace := ["(*sync.WaitGroup).Add", "internal/race.ReleaseMerge", "internal/race.Disable", "internal/race.Enable", "internal/synctest.IsInBubble", "internal/synctest.Associate[sync.WaitGroup]", "sync.fatal", "sync/atomic.OrUint64", "sync/atomic.AddUint64", "internal/race.Read", "sync/atomic.LoadUint64", "sync/atomic.StoreUint64", "internal/synctest.Disassociate[sync.WaitGroup]", "sync.runtime_Semrelease", "(*sync.WaitGroup).Done", "(*sync.WaitGroup).Wait", "internal/race.Acquire", "internal/synctest.IsAssociated[sync.WaitGroup]", "sync/atomic.CompareAndSwapUint64", "internal/race.Write", "sync.runtime_SemacquireWaitGroup"], unfollowed := true, recurses := true, leaving := true, apart := false }
def FnExactStarMatrixSaid : Prop := fnExactStarMatrixRow.holds Try.pinned (OpenSpec.ofChange fnExactStarMatrixSpec)

/-- ITS FALSE NEIGHBOUR: 'it returns false'. Refute it at one input. -/
def fnExactStarMatrixWrong : ChangeSpec := { name := "fnExactStarMatrix", fn := fun _ => fun
  | [d] => { results := [.lit (.bool false)], args := [d] }
  | _ => none }
def FnExactStarMatrixWrongFalsely : Prop := fnExactStarMatrixRow.holds Try.pinned (OpenSpec.ofChange fnExactStarMatrixWrong)

/-- 'laws.FnExactTurnMatrix': WHATEVER THE INPUT: true; the input reads as it did. -/
def fnExactTurnMatrixSpec : ChangeSpec := { name := "fnExactTurnMatrix", fn := fun _ => fun
  | [d] => { results := [.lit (.bool true)], args := [d] }
  | _ => none }
def fnExactTurnMatrixRow : OpenClaim := { program := "ytdomejgngmbcdaa", sum := "5b179b7b69126e0abc5bec190a1e8cf34597242c8fe280b75e18bca2e3c7712b", func := "loop.example/distanceautomata/laws.FnExactTurnMatrix", spec := "fnExactTurnMatrix", apart := false }
def FnExactTurnMatrixSaid : Prop := fnExactTurnMatrixRow.holds Try.pinned (OpenSpec.ofChange fnExactTurnMatrixSpec)

/-- ITS FALSE NEIGHBOUR: 'it returns false'. Refute it at one input. -/
def fnExactTurnMatrixWrong : ChangeSpec := { name := "fnExactTurnMatrix", fn := fun _ => fun
  | [d] => { results := [.lit (.bool false)], args := [d] }
  | _ => none }
def FnExactTurnMatrixWrongFalsely : Prop := fnExactTurnMatrixRow.holds Try.pinned (OpenSpec.ofChange fnExactTurnMatrixWrong)

/-- 'laws.FnExactSameMatrix': WHATEVER THE INPUT: true; the input reads as it did. -/
def fnExactSameMatrixSpec : ChangeSpec := { name := "fnExactSameMatrix", fn := fun _ => fun
  | [d1, d2] => { results := [.lit (.bool true)], args := [d1, d2] }
  | _ => none }
def fnExactSameMatrixRow : OpenClaim := { program := "ytdomejgngmbcdaa", sum := "5b179b7b69126e0abc5bec190a1e8cf34597242c8fe280b75e18bca2e3c7712b", func := "loop.example/distanceautomata/laws.FnExactSameMatrix", spec := "fnExactSameMatrix", apart := false }
def FnExactSameMatrixSaid : Prop := fnExactSameMatrixRow.holds Try.pinned (OpenSpec.ofChange fnExactSameMatrixSpec)

/-- ITS FALSE NEIGHBOUR: 'it returns false'. Refute it at one input. -/
def fnExactSameMatrixWrong : ChangeSpec := { name := "fnExactSameMatrix", fn := fun _ => fun
  | [d1, d2] => { results := [.lit (.bool false)], args := [d1, d2] }
  | _ => none }
def FnExactSameMatrixWrongFalsely : Prop := fnExactSameMatrixRow.holds Try.pinned (OpenSpec.ofChange fnExactSameMatrixWrong)

/- THE SECOND FORM. 'bulk': how many values and letters a reading holds, each counted each time it is reached (what is shared counts as often as it is met; a slice's spare places count too). A statement '..UptoSaid' is the law's where the arguments, and the package variables that the reading takes, are together of bulk at most 1048576: NARROWER than '..Said'. Prove '..Said' where nothing that the law and all that it calls make is longer than what came in: it says more and counts as full. Else prove '..UptoSaid'. A law counts once. -/
mutual
def uptoBulk {H : Type} : DataW H → Nat
  | .lit (.string bytes) => bytes.length + 1
  | .lit _ => 1
  | .nil => 1
  | .ptr d => uptoBulk d + 1
  | .slice elems spare => uptoBulkAll elems + uptoBulkAll spare + 1
  | .agg parts => uptoBulkAll parts + 1
  | .iface _ d => uptoBulk d + 1
  | .map entries => uptoBulkEntries entries + 1
  | .held _ => 1
def uptoBulkAll {H : Type} : List (DataW H) → Nat
  | [] => 0
  | d :: r => uptoBulk d + uptoBulkAll r
def uptoBulkEntries {H : Type} : List (Lit × DataW H) → Nat
  | [] => 0
  | x :: r => uptoBulkEntry x + uptoBulkEntries r
def uptoBulkEntry {H : Type} : Lit × DataW H → Nat
  | (.string bytes, d) => bytes.length + uptoBulk d + 1
  | (_, d) => uptoBulk d + 1
 end
def uptoSmall : (H : Type) → List (DataW H) → Bool := fun _ ds => decide (uptoBulkAll ds ≤ 1048576)
def OpenSpec.upto (s : _root_.Go.ChangeSpec) : _root_.Go.OpenSpec := { _root_.Go.OpenSpec.ofChange s with cond := some uptoSmall }

/-- 'laws.FnMulMatrix', WHERE WHAT IT READS IS OF BULK AT MOST 1048576: true; the input reads as it did. -/
def fnMulMatrixUptoRow : OpenClaim := { program := "ytdomejgngmbcdaa", sum := "5b179b7b69126e0abc5bec190a1e8cf34597242c8fe280b75e18bca2e3c7712b", func := "loop.example/distanceautomata/laws.FnMulMatrix", spec := "fnMulMatrix", unfollowed := true, recurses := true, leaving := true, apart := false, narrowed := true }
def FnMulMatrixUptoSaid : Prop := fnMulMatrixUptoRow.holds Try.pinned (OpenSpec.upto fnMulMatrixSpec)

/-- 'laws.FnMinMatrix', WHERE WHAT IT READS IS OF BULK AT MOST 1048576: true; the input reads as it did. -/
def fnMinMatrixUptoRow : OpenClaim := { program := "ytdomejgngmbcdaa", sum := "5b179b7b69126e0abc5bec190a1e8cf34597242c8fe280b75e18bca2e3c7712b", func := "loop.example/distanceautomata/laws.FnMinMatrix", spec := "fnMinMatrix", unfollowed := true, recurses := true, leaving := true, apart := false, narrowed := true }
def FnMinMatrixUptoSaid : Prop := fnMinMatrixUptoRow.holds Try.pinned (OpenSpec.upto fnMinMatrixSpec)

/-- 'laws.FnPowerMatrix', WHERE WHAT IT READS IS OF BULK AT MOST 1048576: true; the input reads as it did. -/
def fnPowerMatrixUptoRow : OpenClaim := { program := "ytdomejgngmbcdaa", sum := "5b179b7b69126e0abc5bec190a1e8cf34597242c8fe280b75e18bca2e3c7712b", func := "loop.example/distanceautomata/laws.FnPowerMatrix", spec := "fnPowerMatrix", inPlace := ["(*sync.WaitGroup).Add", "internal/race.ReleaseMerge", "internal/race.Disable", "internal/race.Enable", "internal/synctest.IsInBubble", "internal/synctest.Associate[sync.WaitGroup]", "sync.fatal", "sync/atomic.OrUint64", "sync/atomic.AddUint64", "internal/race.Read", "sync/atomic.LoadUint64", "sync/atomic.StoreUint64", "internal/synctest.Disassociate[sync.WaitGroup]", "sync.runtime_Semrelease", "(*sync.WaitGroup).Done", "(*sync.WaitGroup).Wait", "internal/race.Acquire", "internal/synctest.IsAssociated[sync.WaitGroup]", "sync/atomic.CompareAndSwapUint64", "internal/race.Write", "sync.runtime_SemacquireWaitGroup"], unfollowed := true, recurses := true, leaving := true, apart := false, narrowed := true }
def FnPowerMatrixUptoSaid : Prop := fnPowerMatrixUptoRow.holds Try.pinned (OpenSpec.upto fnPowerMatrixSpec)

/-- 'laws.FnStarMatrix', WHERE WHAT IT READS IS OF BULK AT MOST 1048576: true; the input reads as it did. -/
def fnStarMatrixUptoRow : OpenClaim := { program := "ytdomejgngmbcdaa", sum := "5b179b7b69126e0abc5bec190a1e8cf34597242c8fe280b75e18bca2e3c7712b", func := "loop.example/distanceautomata/laws.FnStarMatrix", spec := "fnStarMatrix", inPlace := ["(*sync.WaitGroup).Add", "internal/race.ReleaseMerge", "internal/race.Disable", "internal/race.Enable", "internal/synctest.IsInBubble", "internal/synctest.Associate[sync.WaitGroup]", "sync.fatal", "sync/atomic.OrUint64", "sync/atomic.AddUint64", "internal/race.Read", "sync/atomic.LoadUint64", "sync/atomic.StoreUint64", "internal/synctest.Disassociate[sync.WaitGroup]", "sync.runtime_Semrelease", "(*sync.WaitGroup).Done", "(*sync.WaitGroup).Wait", "internal/race.Acquire", "internal/synctest.IsAssociated[sync.WaitGroup]", "sync/atomic.CompareAndSwapUint64", "internal/race.Write", "sync.runtime_SemacquireWaitGroup"], unfollowed := true, recurses := true, leaving := true, apart := false, narrowed := true }
def FnStarMatrixUptoSaid : Prop := fnStarMatrixUptoRow.holds Try.pinned (OpenSpec.upto fnStarMatrixSpec)

/-- 'laws.FnExactMatrixValid', WHERE WHAT IT READS IS OF BULK AT MOST 1048576: true; the input reads as it did. -/
def fnExactMatrixValidUptoRow : OpenClaim := { program := "ytdomejgngmbcdaa", sum := "5b179b7b69126e0abc5bec190a1e8cf34597242c8fe280b75e18bca2e3c7712b", func := "loop.example/distanceautomata/laws.FnExactMatrixValid", spec := "fnExactMatrixValid", apart := false, narrowed := true }
def FnExactMatrixValidUptoSaid : Prop := fnExactMatrixValidUptoRow.holds Try.pinned (OpenSpec.upto fnExactMatrixValidSpec)

/-- 'laws.FnExactUnitMatrix', WHERE WHAT IT READS IS OF BULK AT MOST 1048576: true; the input reads as it did. -/
def fnExactUnitMatrixUptoRow : OpenClaim := { program := "ytdomejgngmbcdaa", sum := "5b179b7b69126e0abc5bec190a1e8cf34597242c8fe280b75e18bca2e3c7712b", func := "loop.example/distanceautomata/laws.FnExactUnitMatrix", spec := "fnExactUnitMatrix", apart := false, narrowed := true }
def FnExactUnitMatrixUptoSaid : Prop := fnExactUnitMatrixUptoRow.holds Try.pinned (OpenSpec.upto fnExactUnitMatrixSpec)

/-- 'laws.FnExactMulMatrix', WHERE WHAT IT READS IS OF BULK AT MOST 1048576: true; the input reads as it did. -/
def fnExactMulMatrixUptoRow : OpenClaim := { program := "ytdomejgngmbcdaa", sum := "5b179b7b69126e0abc5bec190a1e8cf34597242c8fe280b75e18bca2e3c7712b", func := "loop.example/distanceautomata/laws.FnExactMulMatrix", spec := "fnExactMulMatrix", unfollowed := true, recurses := true, leaving := true, apart := false, narrowed := true }
def FnExactMulMatrixUptoSaid : Prop := fnExactMulMatrixUptoRow.holds Try.pinned (OpenSpec.upto fnExactMulMatrixSpec)

/-- 'laws.FnExactMinMatrix', WHERE WHAT IT READS IS OF BULK AT MOST 1048576: true; the input reads as it did. -/
def fnExactMinMatrixUptoRow : OpenClaim := { program := "ytdomejgngmbcdaa", sum := "5b179b7b69126e0abc5bec190a1e8cf34597242c8fe280b75e18bca2e3c7712b", func := "loop.example/distanceautomata/laws.FnExactMinMatrix", spec := "fnExactMinMatrix", unfollowed := true, recurses := true, leaving := true, apart := false, narrowed := true }
def FnExactMinMatrixUptoSaid : Prop := fnExactMinMatrixUptoRow.holds Try.pinned (OpenSpec.upto fnExactMinMatrixSpec)

/-- 'laws.FnExactPowerMatrix', WHERE WHAT IT READS IS OF BULK AT MOST 1048576: true; the input reads as it did. -/
def fnExactPowerMatrixUptoRow : OpenClaim := { program := "ytdomejgngmbcdaa", sum := "5b179b7b69126e0abc5bec190a1e8cf34597242c8fe280b75e18bca2e3c7712b", func := "loop.example/distanceautomata/laws.FnExactPowerMatrix", spec := "fnExactPowerMatrix", inPlace := ["(*sync.WaitGroup).Add", "internal/race.ReleaseMerge", "internal/race.Disable", "internal/race.Enable", "internal/synctest.IsInBubble", "internal/synctest.Associate[sync.WaitGroup]", "sync.fatal", "sync/atomic.OrUint64", "sync/atomic.AddUint64", "internal/race.Read", "sync/atomic.LoadUint64", "sync/atomic.StoreUint64", "internal/synctest.Disassociate[sync.WaitGroup]", "sync.runtime_Semrelease", "(*sync.WaitGroup).Done", "(*sync.WaitGroup).Wait", "internal/race.Acquire", "internal/synctest.IsAssociated[sync.WaitGroup]", "sync/atomic.CompareAndSwapUint64", "internal/race.Write", "sync.runtime_SemacquireWaitGroup"], unfollowed := true, recurses := true, leaving := true, apart := false, narrowed := true }
def FnExactPowerMatrixUptoSaid : Prop := fnExactPowerMatrixUptoRow.holds Try.pinned (OpenSpec.upto fnExactPowerMatrixSpec)

/-- 'laws.FnExactStarMatrix', WHERE WHAT IT READS IS OF BULK AT MOST 1048576: true; the input reads as it did. -/
def fnExactStarMatrixUptoRow : OpenClaim := { program := "ytdomejgngmbcdaa", sum := "5b179b7b69126e0abc5bec190a1e8cf34597242c8fe280b75e18bca2e3c7712b", func := "loop.example/distanceautomata/laws.FnExactStarMatrix", spec := "fnExactStarMatrix", inPlace := ["(*sync.WaitGroup).Add", "internal/race.ReleaseMerge", "internal/race.Disable", "internal/race.Enable", "internal/synctest.IsInBubble", "internal/synctest.Associate[sync.WaitGroup]", "sync.fatal", "sync/atomic.OrUint64", "sync/atomic.AddUint64", "internal/race.Read", "sync/atomic.LoadUint64", "sync/atomic.StoreUint64", "internal/synctest.Disassociate[sync.WaitGroup]", "sync.runtime_Semrelease", "(*sync.WaitGroup).Done", "(*sync.WaitGroup).Wait", "internal/race.Acquire", "internal/synctest.IsAssociated[sync.WaitGroup]", "sync/atomic.CompareAndSwapUint64", "internal/race.Write", "sync.runtime_SemacquireWaitGroup"], unfollowed := true, recurses := true, leaving := true, apart := false, narrowed := true }
def FnExactStarMatrixUptoSaid : Prop := fnExactStarMatrixUptoRow.holds Try.pinned (OpenSpec.upto fnExactStarMatrixSpec)

/-- 'laws.FnExactTurnMatrix', WHERE WHAT IT READS IS OF BULK AT MOST 1048576: true; the input reads as it did. -/
def fnExactTurnMatrixUptoRow : OpenClaim := { program := "ytdomejgngmbcdaa", sum := "5b179b7b69126e0abc5bec190a1e8cf34597242c8fe280b75e18bca2e3c7712b", func := "loop.example/distanceautomata/laws.FnExactTurnMatrix", spec := "fnExactTurnMatrix", apart := false, narrowed := true }
def FnExactTurnMatrixUptoSaid : Prop := fnExactTurnMatrixUptoRow.holds Try.pinned (OpenSpec.upto fnExactTurnMatrixSpec)

/-- 'laws.FnExactSameMatrix', WHERE WHAT IT READS IS OF BULK AT MOST 1048576: true; the input reads as it did. -/
def fnExactSameMatrixUptoRow : OpenClaim := { program := "ytdomejgngmbcdaa", sum := "5b179b7b69126e0abc5bec190a1e8cf34597242c8fe280b75e18bca2e3c7712b", func := "loop.example/distanceautomata/laws.FnExactSameMatrix", spec := "fnExactSameMatrix", apart := false, narrowed := true }
def FnExactSameMatrixUptoSaid : Prop := fnExactSameMatrixUptoRow.holds Try.pinned (OpenSpec.upto fnExactSameMatrixSpec)

end Rows
end Go.Proofs.Ytdomejgngmbcdaa
