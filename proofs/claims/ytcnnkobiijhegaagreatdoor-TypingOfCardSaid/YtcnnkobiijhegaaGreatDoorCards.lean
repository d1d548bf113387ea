/-
  DERIVED. GIVEN WITH THE SEED: THE CARDS: each row of YtcnnkobiijhegaaGreatDoorRows.lean that lists a variable, with what it lists TIED to the program's text (the seventh form; the later family's looks); each row that meets fmt, with fmt's text TOLD by the authors' own Lean function (tested against real Go, not proved from fmt's source: count such statements apart). THE CARD IS WHAT COUNTS. Prove the row's statement (the work); the ties are given (YtcnnkobiijhegaaGreatDoorTie.lean); close each card by the builder's one call (the guide's Derived/Test/ToyasCard.lean, 'card_holds'). Laid BY PROGRAM, IN A SANDBOX (cutbox-door.mjs). By AI agents, Wed Nov 11 2026. No macro, syntax, notation, axiom, sorry.
-/
import Derived.Test.YtcnnkobiijhegaaGreatDoorRows
import GoSem.ClaimSeven
namespace Go.Proofs.YtcnnkobiijhegaaGreatDoor
namespace Rows

/-- THE TIED CARD OF 'corebanklaw11.TypingOf'. -/
def typingOfCard : Claim7 := { stood := { row := typingOfRow, standIns := [], harness := (true, "9b8f75e4b194c2dcaa9403f839348c656451bca06bf5b30d7b93ce192e604412"), looks := true }, kinds := [], alts := [], laidByText := true, laidKinds := [.data, .data, .data, .sentinel, .sentinel, .data, .data], laidTests := true, laidLooks := .later }
def TypingOfCardSaid : Prop := Claim7.holds Tryz.pinned (.plain (OpenSpec.ofChange typingOfSpec)) typingOfCard

/-- THE TIED CARD OF 'corebanklaw11.TypingParts'. -/
def typingPartsCard : Claim7 := { stood := { row := typingPartsRow, standIns := [], harness := (true, "9b8f75e4b194c2dcaa9403f839348c656451bca06bf5b30d7b93ce192e604412"), looks := true }, kinds := [], alts := [], laidByText := true, laidKinds := [.data, .data, .data, .sentinel, .sentinel, .data, .data], laidTests := true, laidLooks := .later }
def TypingPartsCardSaid : Prop := Claim7.holds Tryz.pinned (.plain (OpenSpec.ofChange typingPartsSpec)) typingPartsCard

/-- THE TIED CARD OF 'corebanklaw11.TypingOrder'. -/
def typingOrderCard : Claim7 := { stood := { row := typingOrderRow, standIns := [], harness := (true, "9b8f75e4b194c2dcaa9403f839348c656451bca06bf5b30d7b93ce192e604412"), looks := true }, kinds := [], alts := [], laidByText := true, laidKinds := [.data, .data, .data, .sentinel, .sentinel, .data, .data], laidTests := true, laidLooks := .later }
def TypingOrderCardSaid : Prop := Claim7.holds Tryz.pinned (.plain (OpenSpec.ofChange typingOrderSpec)) typingOrderCard

/-- THE SECOND FORM's CARD OF 'corebanklaw11.TypingOf'. -/
def typingOfUptoCard : Claim7 := { stood := { row := typingOfUptoRow, standIns := [], harness := (true, "9b8f75e4b194c2dcaa9403f839348c656451bca06bf5b30d7b93ce192e604412"), looks := true }, kinds := [], alts := [], laidByText := true, laidKinds := [.data, .data, .data, .sentinel, .sentinel, .data, .data], laidTests := true, laidLooks := .later }
def TypingOfUptoCardSaid : Prop := Claim7.holds Tryz.pinned (.plain (OpenSpec.upto typingOfSpec)) typingOfUptoCard

/-- THE SECOND FORM's CARD OF 'corebanklaw11.TypingParts'. -/
def typingPartsUptoCard : Claim7 := { stood := { row := typingPartsUptoRow, standIns := [], harness := (true, "9b8f75e4b194c2dcaa9403f839348c656451bca06bf5b30d7b93ce192e604412"), looks := true }, kinds := [], alts := [], laidByText := true, laidKinds := [.data, .data, .data, .sentinel, .sentinel, .data, .data], laidTests := true, laidLooks := .later }
def TypingPartsUptoCardSaid : Prop := Claim7.holds Tryz.pinned (.plain (OpenSpec.upto typingPartsSpec)) typingPartsUptoCard

/-- THE SECOND FORM's CARD OF 'corebanklaw11.TypingOrder'. -/
def typingOrderUptoCard : Claim7 := { stood := { row := typingOrderUptoRow, standIns := [], harness := (true, "9b8f75e4b194c2dcaa9403f839348c656451bca06bf5b30d7b93ce192e604412"), looks := true }, kinds := [], alts := [], laidByText := true, laidKinds := [.data, .data, .data, .sentinel, .sentinel, .data, .data], laidTests := true, laidLooks := .later }
def TypingOrderUptoCardSaid : Prop := Claim7.holds Tryz.pinned (.plain (OpenSpec.upto typingOrderSpec)) typingOrderUptoCard
end Rows
end Go.Proofs.YtcnnkobiijhegaaGreatDoor
