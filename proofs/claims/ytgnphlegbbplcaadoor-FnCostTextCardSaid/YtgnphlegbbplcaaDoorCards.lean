/-
  DERIVED. GIVEN WITH THE SEED: THE CARDS: each row of YtgnphlegbbplcaaDoorRows.lean that lists a variable, with what it lists TIED to the program's text (the seventh form; the later family's looks); each row that meets fmt, with fmt's text TOLD by the authors' own Lean function (tested against real Go, not proved from fmt's source: count such statements apart). THE CARD IS WHAT COUNTS. Prove the row's statement (the work); the ties are given (YtgnphlegbbplcaaDoorTie.lean); close each card by the builder's one call (the guide's Derived/Test/ToyasCard.lean, 'card_holds'). Laid BY PROGRAM, IN A SANDBOX (cutbox-door.mjs). By AI agents, Wed Nov 11 2026. No macro, syntax, notation, axiom, sorry.
-/
import Derived.Test.YtgnphlegbbplcaaDoorRows
import GoSem.ClaimSeven
namespace Go.Proofs.YtgnphlegbbplcaaDoor
namespace Rows

/-- THE TIED CARD OF 'laws.FnCostText'. -/
def fnCostTextCard : Claim7 := { stood := { row := fnCostTextRow, standIns := [], harness := (true, "096e441d98a381f6b215337d47c1ec28cffb8699da8b4cebc5481f5adcab0c9c"), looks := false }, kinds := [], alts := [], laidByText := true, laidKinds := [.data, .data, .data, .data, .pinned], laidTests := true, laidLooks := .later }
def FnCostTextCardSaid : Prop := Claim7.holds Tryd.pinned (.plain (OpenSpec.ofChange fnCostTextSpec)) fnCostTextCard

/-- THE TIED CARD OF 'laws.FnExactFormatCost'. -/
def fnExactFormatCostCard : Claim7 := { stood := { row := fnExactFormatCostRow, standIns := [], harness := (true, "096e441d98a381f6b215337d47c1ec28cffb8699da8b4cebc5481f5adcab0c9c"), looks := false }, kinds := [], alts := [], laidByText := true, laidKinds := [.data, .data, .data], laidTests := true, laidLooks := .later }
def FnExactFormatCostCardSaid : Prop := Claim7.holds Tryd.pinned (.plain (OpenSpec.ofChange fnExactFormatCostSpec)) fnExactFormatCostCard

/-- THE TIED CARD OF 'laws.FnExactFormatCosts'. -/
def fnExactFormatCostsCard : Claim7 := { stood := { row := fnExactFormatCostsRow, standIns := [], harness := (true, "096e441d98a381f6b215337d47c1ec28cffb8699da8b4cebc5481f5adcab0c9c"), looks := false }, kinds := [], alts := [], laidByText := true, laidKinds := [.data, .data, .data], laidTests := true, laidLooks := .later }
def FnExactFormatCostsCardSaid : Prop := Claim7.holds Tryd.pinned (.plain (OpenSpec.ofChange fnExactFormatCostsSpec)) fnExactFormatCostsCard

/-- THE TIED CARD OF 'laws.FnExactParseCosts'. -/
def fnExactParseCostsCard : Claim7 := { stood := { row := fnExactParseCostsRow, standIns := [], harness := (true, "096e441d98a381f6b215337d47c1ec28cffb8699da8b4cebc5481f5adcab0c9c"), looks := false }, kinds := [], alts := [], laidByText := true, laidKinds := [.data, .pinned], laidTests := true, laidLooks := .later }
def FnExactParseCostsCardSaid : Prop := Claim7.holds Tryd.pinned (.plain (OpenSpec.ofChange fnExactParseCostsSpec)) fnExactParseCostsCard

/-- THE SECOND FORM's CARD OF 'laws.FnCostText'. -/
def fnCostTextUptoCard : Claim7 := { stood := { row := fnCostTextUptoRow, standIns := [], harness := (true, "096e441d98a381f6b215337d47c1ec28cffb8699da8b4cebc5481f5adcab0c9c"), looks := false }, kinds := [], alts := [], laidByText := true, laidKinds := [.data, .data, .data, .data, .pinned], laidTests := true, laidLooks := .later }
def FnCostTextUptoCardSaid : Prop := Claim7.holds Tryd.pinned (.plain (OpenSpec.upto fnCostTextSpec)) fnCostTextUptoCard

/-- THE SECOND FORM's CARD OF 'laws.FnExactFormatCost'. -/
def fnExactFormatCostUptoCard : Claim7 := { stood := { row := fnExactFormatCostUptoRow, standIns := [], harness := (true, "096e441d98a381f6b215337d47c1ec28cffb8699da8b4cebc5481f5adcab0c9c"), looks := false }, kinds := [], alts := [], laidByText := true, laidKinds := [.data, .data, .data], laidTests := true, laidLooks := .later }
def FnExactFormatCostUptoCardSaid : Prop := Claim7.holds Tryd.pinned (.plain (OpenSpec.upto fnExactFormatCostSpec)) fnExactFormatCostUptoCard

/-- THE SECOND FORM's CARD OF 'laws.FnExactFormatCosts'. -/
def fnExactFormatCostsUptoCard : Claim7 := { stood := { row := fnExactFormatCostsUptoRow, standIns := [], harness := (true, "096e441d98a381f6b215337d47c1ec28cffb8699da8b4cebc5481f5adcab0c9c"), looks := false }, kinds := [], alts := [], laidByText := true, laidKinds := [.data, .data, .data], laidTests := true, laidLooks := .later }
def FnExactFormatCostsUptoCardSaid : Prop := Claim7.holds Tryd.pinned (.plain (OpenSpec.upto fnExactFormatCostsSpec)) fnExactFormatCostsUptoCard

/-- THE SECOND FORM's CARD OF 'laws.FnExactParseCosts'. -/
def fnExactParseCostsUptoCard : Claim7 := { stood := { row := fnExactParseCostsUptoRow, standIns := [], harness := (true, "096e441d98a381f6b215337d47c1ec28cffb8699da8b4cebc5481f5adcab0c9c"), looks := false }, kinds := [], alts := [], laidByText := true, laidKinds := [.data, .pinned], laidTests := true, laidLooks := .later }
def FnExactParseCostsUptoCardSaid : Prop := Claim7.holds Tryd.pinned (.plain (OpenSpec.upto fnExactParseCostsSpec)) fnExactParseCostsUptoCard
end Rows
end Go.Proofs.YtgnphlegbbplcaaDoor
