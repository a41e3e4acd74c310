/-
  DERIVED. GIVEN WITH THE SEED: THE CARDS: each row of YtjhaegkefagngaaGreatDoorRows.lean that lists a variable, with what it lists TIED to the program's text (the seventh form; the later family's looks); each row that meets fmt, with fmt's text TOLD by the authors' own Lean function (tested against real Go, not proved from fmt's source: count such statements apart). THE CARD IS WHAT COUNTS. Prove the row's statement (the work); the ties are given (YtjhaegkefagngaaGreatDoorTie.lean); close each card by the builder's one call (the guide's Derived/Test/ToyasCard.lean, 'card_holds'). Laid BY PROGRAM, IN A SANDBOX (cutbox-door.mjs). By AI agents, Wed Nov 11 2026. No macro, syntax, notation, axiom, sorry.
-/
import Derived.Test.YtjhaegkefagngaaGreatDoorRows
import GoSem.ClaimSeven
namespace Go.Proofs.YtjhaegkefagngaaGreatDoor
namespace Rows

/-- THE TIED CARD OF 'laws.FnWordMatrix'. -/
def fnWordMatrixCard : Claim7 := { stood := { row := fnWordMatrixRow, standIns := [], harness := (true, "3d7563d66d7ffca57f899459e7e1acb6e3ddcda6044dd6e62c3a8cfc44b8c18b"), looks := false }, kinds := [], alts := [], laidByText := true, laidKinds := [.data, .pinned], laidTests := true, laidLooks := .later }
def FnWordMatrixCardSaid : Prop := Claim7.holds Tryz.pinned (.plain (OpenSpec.ofChange fnWordMatrixSpec)) fnWordMatrixCard

/-- THE TIED CARD OF 'laws.FnGradesOf'. -/
def fnGradesOfCard : Claim7 := { stood := { row := fnGradesOfRow, standIns := [], harness := (true, "3d7563d66d7ffca57f899459e7e1acb6e3ddcda6044dd6e62c3a8cfc44b8c18b"), looks := false }, kinds := [], alts := [], laidByText := true, laidKinds := [.data, .pinned], laidTests := true, laidLooks := .later }
def FnGradesOfCardSaid : Prop := Claim7.holds Tryz.pinned (.plain (OpenSpec.ofChange fnGradesOfSpec)) fnGradesOfCard

/-- THE SECOND FORM's CARD OF 'laws.FnWordMatrix'. -/
def fnWordMatrixUptoCard : Claim7 := { stood := { row := fnWordMatrixUptoRow, standIns := [], harness := (true, "3d7563d66d7ffca57f899459e7e1acb6e3ddcda6044dd6e62c3a8cfc44b8c18b"), looks := false }, kinds := [], alts := [], laidByText := true, laidKinds := [.data, .pinned], laidTests := true, laidLooks := .later }
def FnWordMatrixUptoCardSaid : Prop := Claim7.holds Tryz.pinned (.plain (OpenSpec.upto fnWordMatrixSpec)) fnWordMatrixUptoCard

/-- THE SECOND FORM's CARD OF 'laws.FnGradesOf'. -/
def fnGradesOfUptoCard : Claim7 := { stood := { row := fnGradesOfUptoRow, standIns := [], harness := (true, "3d7563d66d7ffca57f899459e7e1acb6e3ddcda6044dd6e62c3a8cfc44b8c18b"), looks := false }, kinds := [], alts := [], laidByText := true, laidKinds := [.data, .pinned], laidTests := true, laidLooks := .later }
def FnGradesOfUptoCardSaid : Prop := Claim7.holds Tryz.pinned (.plain (OpenSpec.upto fnGradesOfSpec)) fnGradesOfUptoCard
end Rows
end Go.Proofs.YtjhaegkefagngaaGreatDoor
