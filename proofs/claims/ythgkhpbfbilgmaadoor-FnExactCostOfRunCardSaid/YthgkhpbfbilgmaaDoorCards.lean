/-
  DERIVED. GIVEN WITH THE SEED: THE CARDS: each row of YthgkhpbfbilgmaaDoorRows.lean that lists a variable, with what it lists TIED to the program's text (the seventh form; the later family's looks); each row that meets fmt, with fmt's text TOLD by the authors' own Lean function (tested against real Go, not proved from fmt's source: count such statements apart). THE CARD IS WHAT COUNTS. Prove the row's statement (the work); the ties are given (YthgkhpbfbilgmaaDoorTie.lean); close each card by the builder's one call (the guide's Derived/Test/ToyasCard.lean, 'card_holds'). Laid BY PROGRAM, IN A SANDBOX (cutbox-door.mjs). By AI agents, Wed Nov 11 2026. No macro, syntax, notation, axiom, sorry.
-/
import Derived.Test.YthgkhpbfbilgmaaDoorRows
import GoSem.ClaimSeven
namespace Go.Proofs.YthgkhpbfbilgmaaDoor
namespace Rows

/-- THE TIED CARD OF 'laws.FnExactWordValid'. -/
def fnExactWordValidCard : Claim7 := { stood := { row := fnExactWordValidRow, standIns := [], harness := (true, "b7499e5c519b24e4d8cf8c532a2195a33804757d1a3cd72432c6e5d57e5c1706"), looks := false }, kinds := [], alts := [], laidByText := true, laidKinds := [.data, .pinned], laidTests := true, laidLooks := .later }
def FnExactWordValidCardSaid : Prop := Claim7.holds Tryd.pinned (.plain (OpenSpec.ofChange fnExactWordValidSpec)) fnExactWordValidCard

/-- THE TIED CARD OF 'laws.FnExactWordMatrix'. -/
def fnExactWordMatrixCard : Claim7 := { stood := { row := fnExactWordMatrixRow, standIns := [], harness := (true, "b7499e5c519b24e4d8cf8c532a2195a33804757d1a3cd72432c6e5d57e5c1706"), looks := false }, kinds := [], alts := [], laidByText := true, laidKinds := [.data, .pinned], laidTests := true, laidLooks := .later }
def FnExactWordMatrixCardSaid : Prop := Claim7.holds Tryd.pinned (.plain (OpenSpec.ofChange fnExactWordMatrixSpec)) fnExactWordMatrixCard

/-- THE TIED CARD OF 'laws.FnExactCostOf'. -/
def fnExactCostOfCard : Claim7 := { stood := { row := fnExactCostOfRow, standIns := [], harness := (true, "b7499e5c519b24e4d8cf8c532a2195a33804757d1a3cd72432c6e5d57e5c1706"), looks := false }, kinds := [], alts := [], laidByText := true, laidKinds := [.data, .pinned], laidTests := true, laidLooks := .later }
def FnExactCostOfCardSaid : Prop := Claim7.holds Tryd.pinned (.plain (OpenSpec.ofChange fnExactCostOfSpec)) fnExactCostOfCard

/-- THE TIED CARD OF 'laws.FnExactPrefixCosts'. -/
def fnExactPrefixCostsCard : Claim7 := { stood := { row := fnExactPrefixCostsRow, standIns := [], harness := (true, "b7499e5c519b24e4d8cf8c532a2195a33804757d1a3cd72432c6e5d57e5c1706"), looks := false }, kinds := [], alts := [], laidByText := true, laidKinds := [.data, .pinned], laidTests := true, laidLooks := .later }
def FnExactPrefixCostsCardSaid : Prop := Claim7.holds Tryd.pinned (.plain (OpenSpec.ofChange fnExactPrefixCostsSpec)) fnExactPrefixCostsCard

/-- THE TIED CARD OF 'laws.FnExactCostOfRun'. -/
def fnExactCostOfRunCard : Claim7 := { stood := { row := fnExactCostOfRunRow, standIns := [], harness := (true, "b7499e5c519b24e4d8cf8c532a2195a33804757d1a3cd72432c6e5d57e5c1706"), looks := false }, kinds := [], alts := [], laidByText := true, laidKinds := [.data, .pinned], laidTests := true, laidLooks := .later }
def FnExactCostOfRunCardSaid : Prop := Claim7.holds Tryd.pinned (.plain (OpenSpec.ofChange fnExactCostOfRunSpec)) fnExactCostOfRunCard

/-- THE TIED CARD OF 'laws.FnExactRunOf'. -/
def fnExactRunOfCard : Claim7 := { stood := { row := fnExactRunOfRow, standIns := [], harness := (true, "b7499e5c519b24e4d8cf8c532a2195a33804757d1a3cd72432c6e5d57e5c1706"), looks := false }, kinds := [], alts := [], laidByText := true, laidKinds := [.data, .pinned], laidTests := true, laidLooks := .later }
def FnExactRunOfCardSaid : Prop := Claim7.holds Tryd.pinned (.plain (OpenSpec.ofChange fnExactRunOfSpec)) fnExactRunOfCard

/-- THE SECOND FORM's CARD OF 'laws.FnExactWordValid'. -/
def fnExactWordValidUptoCard : Claim7 := { stood := { row := fnExactWordValidUptoRow, standIns := [], harness := (true, "b7499e5c519b24e4d8cf8c532a2195a33804757d1a3cd72432c6e5d57e5c1706"), looks := false }, kinds := [], alts := [], laidByText := true, laidKinds := [.data, .pinned], laidTests := true, laidLooks := .later }
def FnExactWordValidUptoCardSaid : Prop := Claim7.holds Tryd.pinned (.plain (OpenSpec.upto fnExactWordValidSpec)) fnExactWordValidUptoCard

/-- THE SECOND FORM's CARD OF 'laws.FnExactWordMatrix'. -/
def fnExactWordMatrixUptoCard : Claim7 := { stood := { row := fnExactWordMatrixUptoRow, standIns := [], harness := (true, "b7499e5c519b24e4d8cf8c532a2195a33804757d1a3cd72432c6e5d57e5c1706"), looks := false }, kinds := [], alts := [], laidByText := true, laidKinds := [.data, .pinned], laidTests := true, laidLooks := .later }
def FnExactWordMatrixUptoCardSaid : Prop := Claim7.holds Tryd.pinned (.plain (OpenSpec.upto fnExactWordMatrixSpec)) fnExactWordMatrixUptoCard

/-- THE SECOND FORM's CARD OF 'laws.FnExactCostOf'. -/
def fnExactCostOfUptoCard : Claim7 := { stood := { row := fnExactCostOfUptoRow, standIns := [], harness := (true, "b7499e5c519b24e4d8cf8c532a2195a33804757d1a3cd72432c6e5d57e5c1706"), looks := false }, kinds := [], alts := [], laidByText := true, laidKinds := [.data, .pinned], laidTests := true, laidLooks := .later }
def FnExactCostOfUptoCardSaid : Prop := Claim7.holds Tryd.pinned (.plain (OpenSpec.upto fnExactCostOfSpec)) fnExactCostOfUptoCard

/-- THE SECOND FORM's CARD OF 'laws.FnExactPrefixCosts'. -/
def fnExactPrefixCostsUptoCard : Claim7 := { stood := { row := fnExactPrefixCostsUptoRow, standIns := [], harness := (true, "b7499e5c519b24e4d8cf8c532a2195a33804757d1a3cd72432c6e5d57e5c1706"), looks := false }, kinds := [], alts := [], laidByText := true, laidKinds := [.data, .pinned], laidTests := true, laidLooks := .later }
def FnExactPrefixCostsUptoCardSaid : Prop := Claim7.holds Tryd.pinned (.plain (OpenSpec.upto fnExactPrefixCostsSpec)) fnExactPrefixCostsUptoCard

/-- THE SECOND FORM's CARD OF 'laws.FnExactCostOfRun'. -/
def fnExactCostOfRunUptoCard : Claim7 := { stood := { row := fnExactCostOfRunUptoRow, standIns := [], harness := (true, "b7499e5c519b24e4d8cf8c532a2195a33804757d1a3cd72432c6e5d57e5c1706"), looks := false }, kinds := [], alts := [], laidByText := true, laidKinds := [.data, .pinned], laidTests := true, laidLooks := .later }
def FnExactCostOfRunUptoCardSaid : Prop := Claim7.holds Tryd.pinned (.plain (OpenSpec.upto fnExactCostOfRunSpec)) fnExactCostOfRunUptoCard

/-- THE SECOND FORM's CARD OF 'laws.FnExactRunOf'. -/
def fnExactRunOfUptoCard : Claim7 := { stood := { row := fnExactRunOfUptoRow, standIns := [], harness := (true, "b7499e5c519b24e4d8cf8c532a2195a33804757d1a3cd72432c6e5d57e5c1706"), looks := false }, kinds := [], alts := [], laidByText := true, laidKinds := [.data, .pinned], laidTests := true, laidLooks := .later }
def FnExactRunOfUptoCardSaid : Prop := Claim7.holds Tryd.pinned (.plain (OpenSpec.upto fnExactRunOfSpec)) fnExactRunOfUptoCard
end Rows
end Go.Proofs.YthgkhpbfbilgmaaDoor
