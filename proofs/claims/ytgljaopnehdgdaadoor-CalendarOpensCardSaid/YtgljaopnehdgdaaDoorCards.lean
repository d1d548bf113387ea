/-
  DERIVED. GIVEN WITH THE SEED: THE CARDS: each row of YtgljaopnehdgdaaDoorRows.lean that lists a variable, with what it lists TIED to the program's text (the seventh form; the later family's looks); each row that meets fmt, with fmt's text TOLD by the authors' own Lean function (tested against real Go, not proved from fmt's source: count such statements apart). THE CARD IS WHAT COUNTS. Prove the row's statement (the work); the ties are given (YtgljaopnehdgdaaDoorTie.lean); close each card by the builder's one call (the guide's Derived/Test/ToyasCard.lean, 'card_holds'). Laid BY PROGRAM, IN A SANDBOX (cutbox-door.mjs). By AI agents, Wed Nov 11 2026. No macro, syntax, notation, axiom, sorry.
-/
import Derived.Test.YtgljaopnehdgdaaDoorRows
import GoSem.ClaimSeven
namespace Go.Proofs.YtgljaopnehdgdaaDoor
namespace Rows

/-- THE TIED CARD OF 'corebanklaw05.CalendarChecks'. -/
def calendarChecksCard : Claim7 := { stood := { row := calendarChecksRow, standIns := [], harness := (true, "87e85c8ab33705e903f66c0da8ecff32e15d64f50219aead7f12264d621d5f42"), looks := false }, kinds := [], alts := [], laidByText := true, laidKinds := [.data], laidTests := true, laidLooks := .later }
def CalendarChecksCardSaid : Prop := Claim7.holds Tryd.pinned (.plain (OpenSpec.ofChange calendarChecksSpec)) calendarChecksCard

/-- THE TIED CARD OF 'corebanklaw05.CalendarFinds'. -/
def calendarFindsCard : Claim7 := { stood := { row := calendarFindsRow, standIns := [], harness := (true, "87e85c8ab33705e903f66c0da8ecff32e15d64f50219aead7f12264d621d5f42"), looks := false }, kinds := [], alts := [], laidByText := true, laidKinds := [.data], laidTests := true, laidLooks := .later }
def CalendarFindsCardSaid : Prop := Claim7.holds Tryd.pinned (.plain (OpenSpec.ofChange calendarFindsSpec)) calendarFindsCard

/-- THE TIED CARD OF 'corebanklaw05.CalendarOpens'. -/
def calendarOpensCard : Claim7 := { stood := { row := calendarOpensRow, standIns := [], harness := (true, "87e85c8ab33705e903f66c0da8ecff32e15d64f50219aead7f12264d621d5f42"), looks := false }, kinds := [], alts := [], laidByText := true, laidKinds := [.data], laidTests := true, laidLooks := .later }
def CalendarOpensCardSaid : Prop := Claim7.holds Tryd.pinned (.plain (OpenSpec.ofChange calendarOpensSpec)) calendarOpensCard

/-- THE TIED CARD OF 'corebanklaw05.CalendarAdjusts'. -/
def calendarAdjustsCard : Claim7 := { stood := { row := calendarAdjustsRow, standIns := [], harness := (true, "87e85c8ab33705e903f66c0da8ecff32e15d64f50219aead7f12264d621d5f42"), looks := false }, kinds := [], alts := [], laidByText := true, laidKinds := [.data], laidTests := true, laidLooks := .later }
def CalendarAdjustsCardSaid : Prop := Claim7.holds Tryd.pinned (.plain (OpenSpec.ofChange calendarAdjustsSpec)) calendarAdjustsCard

/-- THE TIED CARD OF 'corebanklaw05.CalendarAdds'. -/
def calendarAddsCard : Claim7 := { stood := { row := calendarAddsRow, standIns := [], harness := (true, "87e85c8ab33705e903f66c0da8ecff32e15d64f50219aead7f12264d621d5f42"), looks := false }, kinds := [], alts := [], laidByText := true, laidKinds := [.data], laidTests := true, laidLooks := .later }
def CalendarAddsCardSaid : Prop := Claim7.holds Tryd.pinned (.plain (OpenSpec.ofChange calendarAddsSpec)) calendarAddsCard

/-- THE TIED CARD OF 'corebanklaw05.CalendarTallies'. -/
def calendarTalliesCard : Claim7 := { stood := { row := calendarTalliesRow, standIns := [], harness := (true, "87e85c8ab33705e903f66c0da8ecff32e15d64f50219aead7f12264d621d5f42"), looks := false }, kinds := [], alts := [], laidByText := true, laidKinds := [.data], laidTests := true, laidLooks := .later }
def CalendarTalliesCardSaid : Prop := Claim7.holds Tryd.pinned (.plain (OpenSpec.ofChange calendarTalliesSpec)) calendarTalliesCard

/-- THE TIED CARD OF 'corebanklaw05.CalendarCounts'. -/
def calendarCountsCard : Claim7 := { stood := { row := calendarCountsRow, standIns := [], harness := (true, "87e85c8ab33705e903f66c0da8ecff32e15d64f50219aead7f12264d621d5f42"), looks := false }, kinds := [], alts := [], laidByText := true, laidKinds := [.data], laidTests := true, laidLooks := .later }
def CalendarCountsCardSaid : Prop := Claim7.holds Tryd.pinned (.plain (OpenSpec.ofChange calendarCountsSpec)) calendarCountsCard

/-- THE TIED CARD OF 'corebanklaw05.CalendarJoins'. -/
def calendarJoinsCard : Claim7 := { stood := { row := calendarJoinsRow, standIns := [], harness := (true, "87e85c8ab33705e903f66c0da8ecff32e15d64f50219aead7f12264d621d5f42"), looks := false }, kinds := [], alts := [], laidByText := true, laidKinds := [.data], laidTests := true, laidLooks := .later }
def CalendarJoinsCardSaid : Prop := Claim7.holds Tryd.pinned (.plain (OpenSpec.ofChange calendarJoinsSpec)) calendarJoinsCard

/-- THE SECOND FORM's CARD OF 'corebanklaw05.CalendarChecks'. -/
def calendarChecksUptoCard : Claim7 := { stood := { row := calendarChecksUptoRow, standIns := [], harness := (true, "87e85c8ab33705e903f66c0da8ecff32e15d64f50219aead7f12264d621d5f42"), looks := false }, kinds := [], alts := [], laidByText := true, laidKinds := [.data], laidTests := true, laidLooks := .later }
def CalendarChecksUptoCardSaid : Prop := Claim7.holds Tryd.pinned (.plain (OpenSpec.upto calendarChecksSpec)) calendarChecksUptoCard

/-- THE SECOND FORM's CARD OF 'corebanklaw05.CalendarFinds'. -/
def calendarFindsUptoCard : Claim7 := { stood := { row := calendarFindsUptoRow, standIns := [], harness := (true, "87e85c8ab33705e903f66c0da8ecff32e15d64f50219aead7f12264d621d5f42"), looks := false }, kinds := [], alts := [], laidByText := true, laidKinds := [.data], laidTests := true, laidLooks := .later }
def CalendarFindsUptoCardSaid : Prop := Claim7.holds Tryd.pinned (.plain (OpenSpec.upto calendarFindsSpec)) calendarFindsUptoCard

/-- THE SECOND FORM's CARD OF 'corebanklaw05.CalendarOpens'. -/
def calendarOpensUptoCard : Claim7 := { stood := { row := calendarOpensUptoRow, standIns := [], harness := (true, "87e85c8ab33705e903f66c0da8ecff32e15d64f50219aead7f12264d621d5f42"), looks := false }, kinds := [], alts := [], laidByText := true, laidKinds := [.data], laidTests := true, laidLooks := .later }
def CalendarOpensUptoCardSaid : Prop := Claim7.holds Tryd.pinned (.plain (OpenSpec.upto calendarOpensSpec)) calendarOpensUptoCard

/-- THE SECOND FORM's CARD OF 'corebanklaw05.CalendarAdjusts'. -/
def calendarAdjustsUptoCard : Claim7 := { stood := { row := calendarAdjustsUptoRow, standIns := [], harness := (true, "87e85c8ab33705e903f66c0da8ecff32e15d64f50219aead7f12264d621d5f42"), looks := false }, kinds := [], alts := [], laidByText := true, laidKinds := [.data], laidTests := true, laidLooks := .later }
def CalendarAdjustsUptoCardSaid : Prop := Claim7.holds Tryd.pinned (.plain (OpenSpec.upto calendarAdjustsSpec)) calendarAdjustsUptoCard

/-- THE SECOND FORM's CARD OF 'corebanklaw05.CalendarAdds'. -/
def calendarAddsUptoCard : Claim7 := { stood := { row := calendarAddsUptoRow, standIns := [], harness := (true, "87e85c8ab33705e903f66c0da8ecff32e15d64f50219aead7f12264d621d5f42"), looks := false }, kinds := [], alts := [], laidByText := true, laidKinds := [.data], laidTests := true, laidLooks := .later }
def CalendarAddsUptoCardSaid : Prop := Claim7.holds Tryd.pinned (.plain (OpenSpec.upto calendarAddsSpec)) calendarAddsUptoCard

/-- THE SECOND FORM's CARD OF 'corebanklaw05.CalendarTallies'. -/
def calendarTalliesUptoCard : Claim7 := { stood := { row := calendarTalliesUptoRow, standIns := [], harness := (true, "87e85c8ab33705e903f66c0da8ecff32e15d64f50219aead7f12264d621d5f42"), looks := false }, kinds := [], alts := [], laidByText := true, laidKinds := [.data], laidTests := true, laidLooks := .later }
def CalendarTalliesUptoCardSaid : Prop := Claim7.holds Tryd.pinned (.plain (OpenSpec.upto calendarTalliesSpec)) calendarTalliesUptoCard

/-- THE SECOND FORM's CARD OF 'corebanklaw05.CalendarCounts'. -/
def calendarCountsUptoCard : Claim7 := { stood := { row := calendarCountsUptoRow, standIns := [], harness := (true, "87e85c8ab33705e903f66c0da8ecff32e15d64f50219aead7f12264d621d5f42"), looks := false }, kinds := [], alts := [], laidByText := true, laidKinds := [.data], laidTests := true, laidLooks := .later }
def CalendarCountsUptoCardSaid : Prop := Claim7.holds Tryd.pinned (.plain (OpenSpec.upto calendarCountsSpec)) calendarCountsUptoCard

/-- THE SECOND FORM's CARD OF 'corebanklaw05.CalendarJoins'. -/
def calendarJoinsUptoCard : Claim7 := { stood := { row := calendarJoinsUptoRow, standIns := [], harness := (true, "87e85c8ab33705e903f66c0da8ecff32e15d64f50219aead7f12264d621d5f42"), looks := false }, kinds := [], alts := [], laidByText := true, laidKinds := [.data], laidTests := true, laidLooks := .later }
def CalendarJoinsUptoCardSaid : Prop := Claim7.holds Tryd.pinned (.plain (OpenSpec.upto calendarJoinsSpec)) calendarJoinsUptoCard
end Rows
end Go.Proofs.YtgljaopnehdgdaaDoor
