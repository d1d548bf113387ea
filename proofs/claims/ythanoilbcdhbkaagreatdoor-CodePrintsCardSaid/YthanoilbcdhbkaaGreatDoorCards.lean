/-
  DERIVED. GIVEN WITH THE SEED: THE CARDS: each row of YthanoilbcdhbkaaGreatDoorRows.lean that lists a variable, with what it lists TIED to the program's text (the seventh form; the later family's looks); each row that meets fmt, with fmt's text TOLD by the authors' own Lean function (tested against real Go, not proved from fmt's source: count such statements apart). THE CARD IS WHAT COUNTS. Prove the row's statement (the work); the ties are given (YthanoilbcdhbkaaGreatDoorTie.lean); close each card by the builder's one call (the guide's Derived/Test/ToyasCard.lean, 'card_holds'). Laid BY PROGRAM, IN A SANDBOX (cutbox-door.mjs). By AI agents, Wed Nov 11 2026. No macro, syntax, notation, axiom, sorry.
-/
import Derived.Test.YthanoilbcdhbkaaGreatDoorRows
import GoSem.ClaimSeven
namespace Go.Proofs.YthanoilbcdhbkaaGreatDoor
namespace Rows

/-- THE TIED CARD OF 'corebanklaw12.CodeCompiles'. -/
def codeCompilesCard : Claim7 := { stood := { row := codeCompilesRow, standIns := [], harness := (true, "981d3b6e0c9a1252717a5a566ac93aaefd460d6444114545a07c1bca89594e48"), looks := true }, kinds := [], alts := [], laidByText := true, laidKinds := [.data, .data, .data, .sentinel, .sentinel, .data, .data, .data, .data], laidTests := true, laidLooks := .later }
def CodeCompilesCardSaid : Prop := Claim7.holds Tryz.pinned (.plain (OpenSpec.ofChange codeCompilesSpec)) codeCompilesCard

/-- THE TIED CARD OF 'corebanklaw12.CodeValidates'. -/
def codeValidatesCard : Claim7 := { stood := { row := codeValidatesRow, standIns := [], harness := (true, "981d3b6e0c9a1252717a5a566ac93aaefd460d6444114545a07c1bca89594e48"), looks := true }, kinds := [], alts := [], laidByText := true, laidKinds := [.data, .data, .data, .sentinel, .sentinel, .data, .data, .data, .data], laidTests := true, laidLooks := .later }
def CodeValidatesCardSaid : Prop := Claim7.holds Tryz.pinned (.plain (OpenSpec.ofChange codeValidatesSpec)) codeValidatesCard

/-- THE TIED CARD OF 'corebanklaw12.CodePrints'. -/
def codePrintsCard : Claim7 := { stood := { row := codePrintsRow, standIns := [], harness := (true, "981d3b6e0c9a1252717a5a566ac93aaefd460d6444114545a07c1bca89594e48"), looks := true }, kinds := [], alts := [], laidByText := true, laidKinds := [.data, .data, .data, .sentinel, .sentinel, .data, .data, .data, .data], laidTests := true, laidLooks := .later }
def CodePrintsCardSaid : Prop := Claim7.holds Tryz.pinned (.plain (OpenSpec.ofChange codePrintsSpec)) codePrintsCard

/-- THE TIED CARD OF 'corebanklaw12.CodeEquals'. -/
def codeEqualsCard : Claim7 := { stood := { row := codeEqualsRow, standIns := [], harness := (true, "981d3b6e0c9a1252717a5a566ac93aaefd460d6444114545a07c1bca89594e48"), looks := true }, kinds := [], alts := [], laidByText := true, laidKinds := [.data, .data, .data, .sentinel, .sentinel, .data, .data, .data, .data], laidTests := true, laidLooks := .later }
def CodeEqualsCardSaid : Prop := Claim7.holds Tryz.pinned (.plain (OpenSpec.ofChange codeEqualsSpec)) codeEqualsCard

/-- THE TIED CARD OF 'corebanklaw12.CodeBalanced'. -/
def codeBalancedCard : Claim7 := { stood := { row := codeBalancedRow, standIns := [], harness := (true, "981d3b6e0c9a1252717a5a566ac93aaefd460d6444114545a07c1bca89594e48"), looks := true }, kinds := [], alts := [], laidByText := true, laidKinds := [.data, .data, .data, .sentinel, .sentinel, .data, .data, .data, .data], laidTests := true, laidLooks := .later }
def CodeBalancedCardSaid : Prop := Claim7.holds Tryz.pinned (.plain (OpenSpec.ofChange codeBalancedSpec)) codeBalancedCard

/-- THE TIED CARD OF 'corebanklaw12.CodeDiffers'. -/
def codeDiffersCard : Claim7 := { stood := { row := codeDiffersRow, standIns := [], harness := (true, "981d3b6e0c9a1252717a5a566ac93aaefd460d6444114545a07c1bca89594e48"), looks := true }, kinds := [], alts := [], laidByText := true, laidKinds := [.data, .data, .data, .sentinel, .sentinel, .data, .data, .data, .data], laidTests := true, laidLooks := .later }
def CodeDiffersCardSaid : Prop := Claim7.holds Tryz.pinned (.plain (OpenSpec.ofChange codeDiffersSpec)) codeDiffersCard

/-- THE TIED CARD OF 'corebanklaw12.CodeStops'. -/
def codeStopsCard : Claim7 := { stood := { row := codeStopsRow, standIns := [], harness := (true, "981d3b6e0c9a1252717a5a566ac93aaefd460d6444114545a07c1bca89594e48"), looks := true }, kinds := [], alts := [], laidByText := true, laidKinds := [.data, .data, .data, .sentinel, .sentinel, .data, .data, .data, .data], laidTests := true, laidLooks := .later }
def CodeStopsCardSaid : Prop := Claim7.holds Tryz.pinned (.plain (OpenSpec.ofChange codeStopsSpec)) codeStopsCard

/-- THE SECOND FORM's CARD OF 'corebanklaw12.CodeCompiles'. -/
def codeCompilesUptoCard : Claim7 := { stood := { row := codeCompilesUptoRow, standIns := [], harness := (true, "981d3b6e0c9a1252717a5a566ac93aaefd460d6444114545a07c1bca89594e48"), looks := true }, kinds := [], alts := [], laidByText := true, laidKinds := [.data, .data, .data, .sentinel, .sentinel, .data, .data, .data, .data], laidTests := true, laidLooks := .later }
def CodeCompilesUptoCardSaid : Prop := Claim7.holds Tryz.pinned (.plain (OpenSpec.upto codeCompilesSpec)) codeCompilesUptoCard

/-- THE SECOND FORM's CARD OF 'corebanklaw12.CodeValidates'. -/
def codeValidatesUptoCard : Claim7 := { stood := { row := codeValidatesUptoRow, standIns := [], harness := (true, "981d3b6e0c9a1252717a5a566ac93aaefd460d6444114545a07c1bca89594e48"), looks := true }, kinds := [], alts := [], laidByText := true, laidKinds := [.data, .data, .data, .sentinel, .sentinel, .data, .data, .data, .data], laidTests := true, laidLooks := .later }
def CodeValidatesUptoCardSaid : Prop := Claim7.holds Tryz.pinned (.plain (OpenSpec.upto codeValidatesSpec)) codeValidatesUptoCard

/-- THE SECOND FORM's CARD OF 'corebanklaw12.CodePrints'. -/
def codePrintsUptoCard : Claim7 := { stood := { row := codePrintsUptoRow, standIns := [], harness := (true, "981d3b6e0c9a1252717a5a566ac93aaefd460d6444114545a07c1bca89594e48"), looks := true }, kinds := [], alts := [], laidByText := true, laidKinds := [.data, .data, .data, .sentinel, .sentinel, .data, .data, .data, .data], laidTests := true, laidLooks := .later }
def CodePrintsUptoCardSaid : Prop := Claim7.holds Tryz.pinned (.plain (OpenSpec.upto codePrintsSpec)) codePrintsUptoCard

/-- THE SECOND FORM's CARD OF 'corebanklaw12.CodeEquals'. -/
def codeEqualsUptoCard : Claim7 := { stood := { row := codeEqualsUptoRow, standIns := [], harness := (true, "981d3b6e0c9a1252717a5a566ac93aaefd460d6444114545a07c1bca89594e48"), looks := true }, kinds := [], alts := [], laidByText := true, laidKinds := [.data, .data, .data, .sentinel, .sentinel, .data, .data, .data, .data], laidTests := true, laidLooks := .later }
def CodeEqualsUptoCardSaid : Prop := Claim7.holds Tryz.pinned (.plain (OpenSpec.upto codeEqualsSpec)) codeEqualsUptoCard

/-- THE SECOND FORM's CARD OF 'corebanklaw12.CodeBalanced'. -/
def codeBalancedUptoCard : Claim7 := { stood := { row := codeBalancedUptoRow, standIns := [], harness := (true, "981d3b6e0c9a1252717a5a566ac93aaefd460d6444114545a07c1bca89594e48"), looks := true }, kinds := [], alts := [], laidByText := true, laidKinds := [.data, .data, .data, .sentinel, .sentinel, .data, .data, .data, .data], laidTests := true, laidLooks := .later }
def CodeBalancedUptoCardSaid : Prop := Claim7.holds Tryz.pinned (.plain (OpenSpec.upto codeBalancedSpec)) codeBalancedUptoCard

/-- THE SECOND FORM's CARD OF 'corebanklaw12.CodeDiffers'. -/
def codeDiffersUptoCard : Claim7 := { stood := { row := codeDiffersUptoRow, standIns := [], harness := (true, "981d3b6e0c9a1252717a5a566ac93aaefd460d6444114545a07c1bca89594e48"), looks := true }, kinds := [], alts := [], laidByText := true, laidKinds := [.data, .data, .data, .sentinel, .sentinel, .data, .data, .data, .data], laidTests := true, laidLooks := .later }
def CodeDiffersUptoCardSaid : Prop := Claim7.holds Tryz.pinned (.plain (OpenSpec.upto codeDiffersSpec)) codeDiffersUptoCard

/-- THE SECOND FORM's CARD OF 'corebanklaw12.CodeStops'. -/
def codeStopsUptoCard : Claim7 := { stood := { row := codeStopsUptoRow, standIns := [], harness := (true, "981d3b6e0c9a1252717a5a566ac93aaefd460d6444114545a07c1bca89594e48"), looks := true }, kinds := [], alts := [], laidByText := true, laidKinds := [.data, .data, .data, .sentinel, .sentinel, .data, .data, .data, .data], laidTests := true, laidLooks := .later }
def CodeStopsUptoCardSaid : Prop := Claim7.holds Tryz.pinned (.plain (OpenSpec.upto codeStopsSpec)) codeStopsUptoCard
end Rows
end Go.Proofs.YthanoilbcdhbkaaGreatDoor
