/-
  DERIVED. GIVEN WITH THE SEED: THE CARDS: each row of YtmdddjiegjcekaaDoorRows.lean that lists a variable, with what it lists TIED to the program's text (the seventh form; the later family's looks); each row that meets fmt, with fmt's text TOLD by the authors' own Lean function (tested against real Go, not proved from fmt's source: count such statements apart). THE CARD IS WHAT COUNTS. Prove the row's statement (the work); the ties are given (YtmdddjiegjcekaaDoorTie.lean); close each card by the builder's one call (the guide's Derived/Test/ToyasCard.lean, 'card_holds'). Laid BY PROGRAM, IN A SANDBOX (cutbox-door.mjs). By AI agents, Wed Nov 11 2026. No macro, syntax, notation, axiom, sorry.
-/
import Derived.Test.YtmdddjiegjcekaaDoorRows
import GoSem.ClaimSeven
namespace Go.Proofs.YtmdddjiegjcekaaDoor
namespace Rows

/-- THE TIED CARD OF 'laws.FnExactParseGrades'. -/
def fnExactParseGradesCard : Claim7 := { stood := { row := fnExactParseGradesRow, standIns := [], harness := (true, "40f7f6cae36b656e870ecb38c3211c2a6fe05add8feb80cb8f78262915863d5e"), looks := false }, kinds := [], alts := [], laidByText := true, laidKinds := [.data, .pinned], laidTests := true, laidLooks := .later }
def FnExactParseGradesCardSaid : Prop := Claim7.holds Tryd.pinned (.plain (OpenSpec.ofChange fnExactParseGradesSpec)) fnExactParseGradesCard

/-- THE SECOND FORM's CARD OF 'laws.FnExactParseGrades'. -/
def fnExactParseGradesUptoCard : Claim7 := { stood := { row := fnExactParseGradesUptoRow, standIns := [], harness := (true, "40f7f6cae36b656e870ecb38c3211c2a6fe05add8feb80cb8f78262915863d5e"), looks := false }, kinds := [], alts := [], laidByText := true, laidKinds := [.data, .pinned], laidTests := true, laidLooks := .later }
def FnExactParseGradesUptoCardSaid : Prop := Claim7.holds Tryd.pinned (.plain (OpenSpec.upto fnExactParseGradesSpec)) fnExactParseGradesUptoCard
end Rows
end Go.Proofs.YtmdddjiegjcekaaDoor
