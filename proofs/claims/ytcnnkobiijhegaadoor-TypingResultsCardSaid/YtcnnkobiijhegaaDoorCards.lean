/-
  DERIVED. GIVEN WITH THE SEED: THE CARDS: each row of YtcnnkobiijhegaaDoorRows.lean that lists a variable, with what it lists TIED to the program's text (the seventh form; the later family's looks); each row that meets fmt, with fmt's text TOLD by the authors' own Lean function (tested against real Go, not proved from fmt's source: count such statements apart). THE CARD IS WHAT COUNTS. Prove the row's statement (the work); the ties are given (YtcnnkobiijhegaaDoorTie.lean); close each card by the builder's one call (the guide's Derived/Test/ToyasCard.lean, 'card_holds'). Laid BY PROGRAM, IN A SANDBOX (cutbox-door.mjs). By AI agents, Wed Nov 11 2026. No macro, syntax, notation, axiom, sorry.
-/
import Derived.Test.YtcnnkobiijhegaaDoorRows
import GoSem.ClaimSeven
namespace Go.Proofs.YtcnnkobiijhegaaDoor
namespace Rows

/-- THE TIED CARD OF 'corebanklaw11.TypingResults'. -/
def typingResultsCard : Claim7 := { stood := { row := typingResultsRow, standIns := [], harness := (true, "6bc009536bd06622ec8c78052bdd4ee88b3dbd5ed5382f85a2b2692a1fd7f2ed"), looks := true }, kinds := [], alts := [], laidByText := true, laidKinds := [.data, .data, .data, .sentinel, .sentinel, .data, .data], laidTests := true, laidLooks := .later }
def TypingResultsCardSaid : Prop := Claim7.holds Tryd.pinned (.plain (OpenSpec.ofChange typingResultsSpec)) typingResultsCard

/-- THE TIED CARD OF 'corebanklaw11.TypingVars'. -/
def typingVarsCard : Claim7 := { stood := { row := typingVarsRow, standIns := [], harness := (true, "6bc009536bd06622ec8c78052bdd4ee88b3dbd5ed5382f85a2b2692a1fd7f2ed"), looks := true }, kinds := [], alts := [], laidByText := true, laidKinds := [.data, .data, .data, .sentinel, .sentinel, .data, .data], laidTests := true, laidLooks := .later }
def TypingVarsCardSaid : Prop := Claim7.holds Tryd.pinned (.plain (OpenSpec.ofChange typingVarsSpec)) typingVarsCard

/-- THE TIED CARD OF 'corebanklaw11.TypingSound'. -/
def typingSoundCard : Claim7 := { stood := { row := typingSoundRow, standIns := [], harness := (true, "6bc009536bd06622ec8c78052bdd4ee88b3dbd5ed5382f85a2b2692a1fd7f2ed"), looks := true }, kinds := [], alts := [], laidByText := true, laidKinds := [.data, .data, .data, .sentinel, .sentinel, .data, .data], laidTests := true, laidLooks := .later }
def TypingSoundCardSaid : Prop := Claim7.holds Tryd.pinned (.plain (OpenSpec.ofChange typingSoundSpec)) typingSoundCard

/-- THE SECOND FORM's CARD OF 'corebanklaw11.TypingResults'. -/
def typingResultsUptoCard : Claim7 := { stood := { row := typingResultsUptoRow, standIns := [], harness := (true, "6bc009536bd06622ec8c78052bdd4ee88b3dbd5ed5382f85a2b2692a1fd7f2ed"), looks := true }, kinds := [], alts := [], laidByText := true, laidKinds := [.data, .data, .data, .sentinel, .sentinel, .data, .data], laidTests := true, laidLooks := .later }
def TypingResultsUptoCardSaid : Prop := Claim7.holds Tryd.pinned (.plain (OpenSpec.upto typingResultsSpec)) typingResultsUptoCard

/-- THE SECOND FORM's CARD OF 'corebanklaw11.TypingVars'. -/
def typingVarsUptoCard : Claim7 := { stood := { row := typingVarsUptoRow, standIns := [], harness := (true, "6bc009536bd06622ec8c78052bdd4ee88b3dbd5ed5382f85a2b2692a1fd7f2ed"), looks := true }, kinds := [], alts := [], laidByText := true, laidKinds := [.data, .data, .data, .sentinel, .sentinel, .data, .data], laidTests := true, laidLooks := .later }
def TypingVarsUptoCardSaid : Prop := Claim7.holds Tryd.pinned (.plain (OpenSpec.upto typingVarsSpec)) typingVarsUptoCard

/-- THE SECOND FORM's CARD OF 'corebanklaw11.TypingSound'. -/
def typingSoundUptoCard : Claim7 := { stood := { row := typingSoundUptoRow, standIns := [], harness := (true, "6bc009536bd06622ec8c78052bdd4ee88b3dbd5ed5382f85a2b2692a1fd7f2ed"), looks := true }, kinds := [], alts := [], laidByText := true, laidKinds := [.data, .data, .data, .sentinel, .sentinel, .data, .data], laidTests := true, laidLooks := .later }
def TypingSoundUptoCardSaid : Prop := Claim7.holds Tryd.pinned (.plain (OpenSpec.upto typingSoundSpec)) typingSoundUptoCard
end Rows
end Go.Proofs.YtcnnkobiijhegaaDoor
