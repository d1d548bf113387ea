/-
  DERIVED. GIVEN WITH THE SEED: THE CARDS: each row of YtlkhdebkapbikaaDoorRows.lean that lists a variable, with what it lists TIED to the program's text (the seventh form; the later family's looks); each row that meets fmt, with fmt's text TOLD by the authors' own Lean function (tested against real Go, not proved from fmt's source: count such statements apart). THE CARD IS WHAT COUNTS. Prove the row's statement (the work); the ties are given (YtlkhdebkapbikaaDoorTie.lean); close each card by the builder's one call (the guide's Derived/Test/ToyasCard.lean, 'card_holds'). Laid BY PROGRAM, IN A SANDBOX (cutbox-door.mjs). By AI agents, Wed Nov 11 2026. No macro, syntax, notation, axiom, sorry.
-/
import Derived.Test.YtlkhdebkapbikaaDoorRows
import GoSem.ClaimSeven
namespace Go.Proofs.YtlkhdebkapbikaaDoor
namespace Rows

/-- THE TIED CARD OF 'corebanklaw01.WideAdds'. -/
def wideAddsCard : Claim7 := { stood := { row := wideAddsRow, standIns := [], harness := (true, "c7bdea0d27f0a414ae1c2c458a8c42ce08ecc6b496a73693fa85798e61ed98c4"), looks := false }, kinds := [], alts := [], laidByText := true, laidKinds := [.data, .data, .data], laidTests := true, laidLooks := .later }
def WideAddsCardSaid : Prop := Claim7.holds Tryd.pinned (.plain (OpenSpec.ofChange wideAddsSpec)) wideAddsCard

/-- THE TIED CARD OF 'corebanklaw01.WideMultiplies'. -/
def wideMultipliesCard : Claim7 := { stood := { row := wideMultipliesRow, standIns := [], harness := (true, "c7bdea0d27f0a414ae1c2c458a8c42ce08ecc6b496a73693fa85798e61ed98c4"), looks := false }, kinds := [], alts := [], laidByText := true, laidKinds := [.data, .data, .data], laidTests := true, laidLooks := .later }
def WideMultipliesCardSaid : Prop := Claim7.holds Tryd.pinned (.plain (OpenSpec.ofChange wideMultipliesSpec)) wideMultipliesCard

/-- THE TIED CARD OF 'corebanklaw01.WideQuotients'. -/
def wideQuotientsCard : Claim7 := { stood := { row := wideQuotientsRow, standIns := [], harness := (true, "c7bdea0d27f0a414ae1c2c458a8c42ce08ecc6b496a73693fa85798e61ed98c4"), looks := false }, kinds := [], alts := [], laidByText := true, laidKinds := [.data, .data, .data], laidTests := true, laidLooks := .later }
def WideQuotientsCardSaid : Prop := Claim7.holds Tryd.pinned (.plain (OpenSpec.ofChange wideQuotientsSpec)) wideQuotientsCard

/-- THE TIED CARD OF 'corebanklaw01.WideTexts'. -/
def wideTextsCard : Claim7 := { stood := { row := wideTextsRow, standIns := [], harness := (true, "c7bdea0d27f0a414ae1c2c458a8c42ce08ecc6b496a73693fa85798e61ed98c4"), looks := false }, kinds := [], alts := [], laidByText := true, laidKinds := [.data, .data, .data], laidTests := true, laidLooks := .later }
def WideTextsCardSaid : Prop := Claim7.holds Tryd.pinned (.plain (OpenSpec.ofChange wideTextsSpec)) wideTextsCard

/-- THE TIED CARD OF 'corebanklaw01.WideRoundTrips'. -/
def wideRoundTripsCard : Claim7 := { stood := { row := wideRoundTripsRow, standIns := [], harness := (true, "c7bdea0d27f0a414ae1c2c458a8c42ce08ecc6b496a73693fa85798e61ed98c4"), looks := false }, kinds := [], alts := [], laidByText := true, laidKinds := [.data, .data, .data], laidTests := true, laidLooks := .later }
def WideRoundTripsCardSaid : Prop := Claim7.holds Tryd.pinned (.plain (OpenSpec.ofChange wideRoundTripsSpec)) wideRoundTripsCard

/-- THE TIED CARD OF 'corebanklaw01.WideDivides'. -/
def wideDividesCard : Claim7 := { stood := { row := wideDividesRow, standIns := [], harness := (true, "c7bdea0d27f0a414ae1c2c458a8c42ce08ecc6b496a73693fa85798e61ed98c4"), looks := false }, kinds := [], alts := [], laidByText := true, laidKinds := [.data, .data, .data], laidTests := true, laidLooks := .later }
def WideDividesCardSaid : Prop := Claim7.holds Tryd.pinned (.plain (OpenSpec.ofChange wideDividesSpec)) wideDividesCard

/-- THE TIED CARD OF 'corebanklaw01.WideRestores'. -/
def wideRestoresCard : Claim7 := { stood := { row := wideRestoresRow, standIns := [], harness := (true, "c7bdea0d27f0a414ae1c2c458a8c42ce08ecc6b496a73693fa85798e61ed98c4"), looks := false }, kinds := [], alts := [], laidByText := true, laidKinds := [.data, .data, .data], laidTests := true, laidLooks := .later }
def WideRestoresCardSaid : Prop := Claim7.holds Tryd.pinned (.plain (OpenSpec.ofChange wideRestoresSpec)) wideRestoresCard

/-- THE SECOND FORM's CARD OF 'corebanklaw01.WideAdds'. -/
def wideAddsUptoCard : Claim7 := { stood := { row := wideAddsUptoRow, standIns := [], harness := (true, "c7bdea0d27f0a414ae1c2c458a8c42ce08ecc6b496a73693fa85798e61ed98c4"), looks := false }, kinds := [], alts := [], laidByText := true, laidKinds := [.data, .data, .data], laidTests := true, laidLooks := .later }
def WideAddsUptoCardSaid : Prop := Claim7.holds Tryd.pinned (.plain (OpenSpec.upto wideAddsSpec)) wideAddsUptoCard

/-- THE SECOND FORM's CARD OF 'corebanklaw01.WideMultiplies'. -/
def wideMultipliesUptoCard : Claim7 := { stood := { row := wideMultipliesUptoRow, standIns := [], harness := (true, "c7bdea0d27f0a414ae1c2c458a8c42ce08ecc6b496a73693fa85798e61ed98c4"), looks := false }, kinds := [], alts := [], laidByText := true, laidKinds := [.data, .data, .data], laidTests := true, laidLooks := .later }
def WideMultipliesUptoCardSaid : Prop := Claim7.holds Tryd.pinned (.plain (OpenSpec.upto wideMultipliesSpec)) wideMultipliesUptoCard

/-- THE SECOND FORM's CARD OF 'corebanklaw01.WideQuotients'. -/
def wideQuotientsUptoCard : Claim7 := { stood := { row := wideQuotientsUptoRow, standIns := [], harness := (true, "c7bdea0d27f0a414ae1c2c458a8c42ce08ecc6b496a73693fa85798e61ed98c4"), looks := false }, kinds := [], alts := [], laidByText := true, laidKinds := [.data, .data, .data], laidTests := true, laidLooks := .later }
def WideQuotientsUptoCardSaid : Prop := Claim7.holds Tryd.pinned (.plain (OpenSpec.upto wideQuotientsSpec)) wideQuotientsUptoCard

/-- THE SECOND FORM's CARD OF 'corebanklaw01.WideTexts'. -/
def wideTextsUptoCard : Claim7 := { stood := { row := wideTextsUptoRow, standIns := [], harness := (true, "c7bdea0d27f0a414ae1c2c458a8c42ce08ecc6b496a73693fa85798e61ed98c4"), looks := false }, kinds := [], alts := [], laidByText := true, laidKinds := [.data, .data, .data], laidTests := true, laidLooks := .later }
def WideTextsUptoCardSaid : Prop := Claim7.holds Tryd.pinned (.plain (OpenSpec.upto wideTextsSpec)) wideTextsUptoCard

/-- THE SECOND FORM's CARD OF 'corebanklaw01.WideRoundTrips'. -/
def wideRoundTripsUptoCard : Claim7 := { stood := { row := wideRoundTripsUptoRow, standIns := [], harness := (true, "c7bdea0d27f0a414ae1c2c458a8c42ce08ecc6b496a73693fa85798e61ed98c4"), looks := false }, kinds := [], alts := [], laidByText := true, laidKinds := [.data, .data, .data], laidTests := true, laidLooks := .later }
def WideRoundTripsUptoCardSaid : Prop := Claim7.holds Tryd.pinned (.plain (OpenSpec.upto wideRoundTripsSpec)) wideRoundTripsUptoCard

/-- THE SECOND FORM's CARD OF 'corebanklaw01.WideDivides'. -/
def wideDividesUptoCard : Claim7 := { stood := { row := wideDividesUptoRow, standIns := [], harness := (true, "c7bdea0d27f0a414ae1c2c458a8c42ce08ecc6b496a73693fa85798e61ed98c4"), looks := false }, kinds := [], alts := [], laidByText := true, laidKinds := [.data, .data, .data], laidTests := true, laidLooks := .later }
def WideDividesUptoCardSaid : Prop := Claim7.holds Tryd.pinned (.plain (OpenSpec.upto wideDividesSpec)) wideDividesUptoCard

/-- THE SECOND FORM's CARD OF 'corebanklaw01.WideRestores'. -/
def wideRestoresUptoCard : Claim7 := { stood := { row := wideRestoresUptoRow, standIns := [], harness := (true, "c7bdea0d27f0a414ae1c2c458a8c42ce08ecc6b496a73693fa85798e61ed98c4"), looks := false }, kinds := [], alts := [], laidByText := true, laidKinds := [.data, .data, .data], laidTests := true, laidLooks := .later }
def WideRestoresUptoCardSaid : Prop := Claim7.holds Tryd.pinned (.plain (OpenSpec.upto wideRestoresSpec)) wideRestoresUptoCard
end Rows
end Go.Proofs.YtlkhdebkapbikaaDoor
