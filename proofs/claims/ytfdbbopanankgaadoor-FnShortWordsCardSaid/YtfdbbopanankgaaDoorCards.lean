/-
  DERIVED. GIVEN WITH THE SEED: THE CARDS: each row of YtfdbbopanankgaaDoorRows.lean that lists a variable, with what it lists TIED to the program's text (the seventh form; the later family's looks); each row that meets fmt, with fmt's text TOLD by the authors' own Lean function (tested against real Go, not proved from fmt's source: count such statements apart). THE CARD IS WHAT COUNTS. Prove the row's statement (the work); the ties are given (YtfdbbopanankgaaDoorTie.lean); close each card by the builder's one call (the guide's Derived/Test/ToyasCard.lean, 'card_holds'). Laid BY PROGRAM, IN A SANDBOX (cutbox-door.mjs). By AI agents, Wed Nov 11 2026. No macro, syntax, notation, axiom, sorry.
-/
import Derived.Test.YtfdbbopanankgaaDoorRows
import GoSem.ClaimSeven
namespace Go.Proofs.YtfdbbopanankgaaDoor
namespace Rows

/-- THE TIED CARD OF 'laws.FnShortWords'. -/
def fnShortWordsCard : Claim7 := { stood := { row := fnShortWordsRow, standIns := [], harness := (true, "28c463ec1c3ed0f0390ebff67bdea9f81b0428a8622a6224515642f72eb7a387"), looks := false }, kinds := [], alts := [], laidByText := true, laidKinds := [.data, .pinned], laidTests := true, laidLooks := .later }
def FnShortWordsCardSaid : Prop := Claim7.holds Tryd.pinned (.plain (OpenSpec.ofChange fnShortWordsSpec)) fnShortWordsCard

/-- THE SECOND FORM's CARD OF 'laws.FnShortWords'. -/
def fnShortWordsUptoCard : Claim7 := { stood := { row := fnShortWordsUptoRow, standIns := [], harness := (true, "28c463ec1c3ed0f0390ebff67bdea9f81b0428a8622a6224515642f72eb7a387"), looks := false }, kinds := [], alts := [], laidByText := true, laidKinds := [.data, .pinned], laidTests := true, laidLooks := .later }
def FnShortWordsUptoCardSaid : Prop := Claim7.holds Tryd.pinned (.plain (OpenSpec.upto fnShortWordsSpec)) fnShortWordsUptoCard
end Rows
end Go.Proofs.YtfdbbopanankgaaDoor
