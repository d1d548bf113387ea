/-
  DERIVED. GIVEN WITH THE SEED: THE CARDS: each row of YtfapcllhcbedlaaDoorRows.lean that lists a variable, with what it lists TIED to the program's text (the seventh form; the later family's looks); each row that meets fmt, with fmt's text TOLD by the authors' own Lean function (tested against real Go, not proved from fmt's source: count such statements apart). THE CARD IS WHAT COUNTS. Prove the row's statement (the work); the ties are given (YtfapcllhcbedlaaDoorTie.lean); close each card by the builder's one call (the guide's Derived/Test/ToyasCard.lean, 'card_holds'). Laid BY PROGRAM, IN A SANDBOX (cutbox-door.mjs). By AI agents, Wed Nov 11 2026. No macro, syntax, notation, axiom, sorry.
-/
import Derived.Test.YtfapcllhcbedlaaDoorRows
import GoSem.ClaimSeven
namespace Go.Proofs.YtfapcllhcbedlaaDoor
namespace Rows

/-- THE TIED CARD OF 'corebanklaw01.WideAdds'. -/
def wideAddsCard : Claim7 := { stood := { row := wideAddsRow, standIns := [], harness := (true, "ea9a5a4dbc340e4cd7363a5b7b48972e4d4a5d141b380631911d3b8b7b58d8ad"), looks := false }, kinds := [], alts := [], laidByText := true, laidKinds := [.data, .data, .data], laidTests := true, laidLooks := .later }
def WideAddsCardSaid : Prop := Claim7.holds Tryd.pinned (.plain (OpenSpec.ofChange wideAddsSpec)) wideAddsCard

/-- THE TIED CARD OF 'corebanklaw01.WideMultiplies'. -/
def wideMultipliesCard : Claim7 := { stood := { row := wideMultipliesRow, standIns := [], harness := (true, "ea9a5a4dbc340e4cd7363a5b7b48972e4d4a5d141b380631911d3b8b7b58d8ad"), looks := false }, kinds := [], alts := [], laidByText := true, laidKinds := [.data, .data, .data], laidTests := true, laidLooks := .later }
def WideMultipliesCardSaid : Prop := Claim7.holds Tryd.pinned (.plain (OpenSpec.ofChange wideMultipliesSpec)) wideMultipliesCard

/-- THE TIED CARD OF 'corebanklaw01.WideQuotients'. -/
def wideQuotientsCard : Claim7 := { stood := { row := wideQuotientsRow, standIns := [], harness := (true, "ea9a5a4dbc340e4cd7363a5b7b48972e4d4a5d141b380631911d3b8b7b58d8ad"), looks := false }, kinds := [], alts := [], laidByText := true, laidKinds := [.data, .data, .data], laidTests := true, laidLooks := .later }
def WideQuotientsCardSaid : Prop := Claim7.holds Tryd.pinned (.plain (OpenSpec.ofChange wideQuotientsSpec)) wideQuotientsCard

/-- THE TIED CARD OF 'corebanklaw01.WideTexts'. -/
def wideTextsCard : Claim7 := { stood := { row := wideTextsRow, standIns := [], harness := (true, "ea9a5a4dbc340e4cd7363a5b7b48972e4d4a5d141b380631911d3b8b7b58d8ad"), looks := false }, kinds := [], alts := [], laidByText := true, laidKinds := [.data, .data, .data], laidTests := true, laidLooks := .later }
def WideTextsCardSaid : Prop := Claim7.holds Tryd.pinned (.plain (OpenSpec.ofChange wideTextsSpec)) wideTextsCard

/-- THE TIED CARD OF 'corebanklaw01.WideRoundTrips'. -/
def wideRoundTripsCard : Claim7 := { stood := { row := wideRoundTripsRow, standIns := [], harness := (true, "ea9a5a4dbc340e4cd7363a5b7b48972e4d4a5d141b380631911d3b8b7b58d8ad"), looks := false }, kinds := [], alts := [], laidByText := true, laidKinds := [.data, .data, .data], laidTests := true, laidLooks := .later }
def WideRoundTripsCardSaid : Prop := Claim7.holds Tryd.pinned (.plain (OpenSpec.ofChange wideRoundTripsSpec)) wideRoundTripsCard

/-- THE TIED CARD OF 'corebanklaw01.WideDivides'. -/
def wideDividesCard : Claim7 := { stood := { row := wideDividesRow, standIns := [], harness := (true, "ea9a5a4dbc340e4cd7363a5b7b48972e4d4a5d141b380631911d3b8b7b58d8ad"), looks := false }, kinds := [], alts := [], laidByText := true, laidKinds := [.data, .data, .data], laidTests := true, laidLooks := .later }
def WideDividesCardSaid : Prop := Claim7.holds Tryd.pinned (.plain (OpenSpec.ofChange wideDividesSpec)) wideDividesCard

/-- THE TIED CARD OF 'corebanklaw01.WideRestores'. -/
def wideRestoresCard : Claim7 := { stood := { row := wideRestoresRow, standIns := [], harness := (true, "ea9a5a4dbc340e4cd7363a5b7b48972e4d4a5d141b380631911d3b8b7b58d8ad"), looks := false }, kinds := [], alts := [], laidByText := true, laidKinds := [.data, .data, .data], laidTests := true, laidLooks := .later }
def WideRestoresCardSaid : Prop := Claim7.holds Tryd.pinned (.plain (OpenSpec.ofChange wideRestoresSpec)) wideRestoresCard

/-- THE TIED CARD OF 'corebanklaw02.RoundingDivides'. -/
def roundingDividesCard : Claim7 := { stood := { row := roundingDividesRow, standIns := [], harness := (true, "ea9a5a4dbc340e4cd7363a5b7b48972e4d4a5d141b380631911d3b8b7b58d8ad"), looks := false }, kinds := [], alts := [], laidByText := true, laidKinds := [.data], laidTests := true, laidLooks := .later }
def RoundingDividesCardSaid : Prop := Claim7.holds Tryd.pinned (.plain (OpenSpec.ofChange roundingDividesSpec)) roundingDividesCard

/-- THE TIED CARD OF 'corebanklaw02.RoundingAmounts'. -/
def roundingAmountsCard : Claim7 := { stood := { row := roundingAmountsRow, standIns := [], harness := (true, "ea9a5a4dbc340e4cd7363a5b7b48972e4d4a5d141b380631911d3b8b7b58d8ad"), looks := false }, kinds := [], alts := [], laidByText := true, laidKinds := [.data], laidTests := true, laidLooks := .later }
def RoundingAmountsCardSaid : Prop := Claim7.holds Tryd.pinned (.plain (OpenSpec.ofChange roundingAmountsSpec)) roundingAmountsCard

/-- THE TIED CARD OF 'corebanklaw02.RoundingPercents'. -/
def roundingPercentsCard : Claim7 := { stood := { row := roundingPercentsRow, standIns := [], harness := (true, "ea9a5a4dbc340e4cd7363a5b7b48972e4d4a5d141b380631911d3b8b7b58d8ad"), looks := false }, kinds := [], alts := [], laidByText := true, laidKinds := [.data], laidTests := true, laidLooks := .later }
def RoundingPercentsCardSaid : Prop := Claim7.holds Tryd.pinned (.plain (OpenSpec.ofChange roundingPercentsSpec)) roundingPercentsCard

/-- THE TIED CARD OF 'corebanklaw02.RoundingParts'. -/
def roundingPartsCard : Claim7 := { stood := { row := roundingPartsRow, standIns := [], harness := (true, "ea9a5a4dbc340e4cd7363a5b7b48972e4d4a5d141b380631911d3b8b7b58d8ad"), looks := false }, kinds := [], alts := [], laidByText := true, laidKinds := [.data], laidTests := true, laidLooks := .later }
def RoundingPartsCardSaid : Prop := Claim7.holds Tryd.pinned (.plain (OpenSpec.ofChange roundingPartsSpec)) roundingPartsCard

/-- THE TIED CARD OF 'corebanklaw02.RoundingSplits'. -/
def roundingSplitsCard : Claim7 := { stood := { row := roundingSplitsRow, standIns := [], harness := (true, "ea9a5a4dbc340e4cd7363a5b7b48972e4d4a5d141b380631911d3b8b7b58d8ad"), looks := false }, kinds := [], alts := [], laidByText := true, laidKinds := [.data], laidTests := true, laidLooks := .later }
def RoundingSplitsCardSaid : Prop := Claim7.holds Tryd.pinned (.plain (OpenSpec.ofChange roundingSplitsSpec)) roundingSplitsCard

/-- THE TIED CARD OF 'corebanklaw02.RoundingSteps'. -/
def roundingStepsCard : Claim7 := { stood := { row := roundingStepsRow, standIns := [], harness := (true, "ea9a5a4dbc340e4cd7363a5b7b48972e4d4a5d141b380631911d3b8b7b58d8ad"), looks := false }, kinds := [], alts := [], laidByText := true, laidKinds := [.data], laidTests := true, laidLooks := .later }
def RoundingStepsCardSaid : Prop := Claim7.holds Tryd.pinned (.plain (OpenSpec.ofChange roundingStepsSpec)) roundingStepsCard

/-- THE TIED CARD OF 'corebanklaw02.RoundingNear'. -/
def roundingNearCard : Claim7 := { stood := { row := roundingNearRow, standIns := [], harness := (true, "ea9a5a4dbc340e4cd7363a5b7b48972e4d4a5d141b380631911d3b8b7b58d8ad"), looks := false }, kinds := [], alts := [], laidByText := true, laidKinds := [.data], laidTests := true, laidLooks := .later }
def RoundingNearCardSaid : Prop := Claim7.holds Tryd.pinned (.plain (OpenSpec.ofChange roundingNearSpec)) roundingNearCard

/-- THE TIED CARD OF 'corebanklaw02.RoundingMirrors'. -/
def roundingMirrorsCard : Claim7 := { stood := { row := roundingMirrorsRow, standIns := [], harness := (true, "ea9a5a4dbc340e4cd7363a5b7b48972e4d4a5d141b380631911d3b8b7b58d8ad"), looks := false }, kinds := [], alts := [], laidByText := true, laidKinds := [.data], laidTests := true, laidLooks := .later }
def RoundingMirrorsCardSaid : Prop := Claim7.holds Tryd.pinned (.plain (OpenSpec.ofChange roundingMirrorsSpec)) roundingMirrorsCard

/-- THE SECOND FORM's CARD OF 'corebanklaw01.WideAdds'. -/
def wideAddsUptoCard : Claim7 := { stood := { row := wideAddsUptoRow, standIns := [], harness := (true, "ea9a5a4dbc340e4cd7363a5b7b48972e4d4a5d141b380631911d3b8b7b58d8ad"), looks := false }, kinds := [], alts := [], laidByText := true, laidKinds := [.data, .data, .data], laidTests := true, laidLooks := .later }
def WideAddsUptoCardSaid : Prop := Claim7.holds Tryd.pinned (.plain (OpenSpec.upto wideAddsSpec)) wideAddsUptoCard

/-- THE SECOND FORM's CARD OF 'corebanklaw01.WideMultiplies'. -/
def wideMultipliesUptoCard : Claim7 := { stood := { row := wideMultipliesUptoRow, standIns := [], harness := (true, "ea9a5a4dbc340e4cd7363a5b7b48972e4d4a5d141b380631911d3b8b7b58d8ad"), looks := false }, kinds := [], alts := [], laidByText := true, laidKinds := [.data, .data, .data], laidTests := true, laidLooks := .later }
def WideMultipliesUptoCardSaid : Prop := Claim7.holds Tryd.pinned (.plain (OpenSpec.upto wideMultipliesSpec)) wideMultipliesUptoCard

/-- THE SECOND FORM's CARD OF 'corebanklaw01.WideQuotients'. -/
def wideQuotientsUptoCard : Claim7 := { stood := { row := wideQuotientsUptoRow, standIns := [], harness := (true, "ea9a5a4dbc340e4cd7363a5b7b48972e4d4a5d141b380631911d3b8b7b58d8ad"), looks := false }, kinds := [], alts := [], laidByText := true, laidKinds := [.data, .data, .data], laidTests := true, laidLooks := .later }
def WideQuotientsUptoCardSaid : Prop := Claim7.holds Tryd.pinned (.plain (OpenSpec.upto wideQuotientsSpec)) wideQuotientsUptoCard

/-- THE SECOND FORM's CARD OF 'corebanklaw01.WideTexts'. -/
def wideTextsUptoCard : Claim7 := { stood := { row := wideTextsUptoRow, standIns := [], harness := (true, "ea9a5a4dbc340e4cd7363a5b7b48972e4d4a5d141b380631911d3b8b7b58d8ad"), looks := false }, kinds := [], alts := [], laidByText := true, laidKinds := [.data, .data, .data], laidTests := true, laidLooks := .later }
def WideTextsUptoCardSaid : Prop := Claim7.holds Tryd.pinned (.plain (OpenSpec.upto wideTextsSpec)) wideTextsUptoCard

/-- THE SECOND FORM's CARD OF 'corebanklaw01.WideRoundTrips'. -/
def wideRoundTripsUptoCard : Claim7 := { stood := { row := wideRoundTripsUptoRow, standIns := [], harness := (true, "ea9a5a4dbc340e4cd7363a5b7b48972e4d4a5d141b380631911d3b8b7b58d8ad"), looks := false }, kinds := [], alts := [], laidByText := true, laidKinds := [.data, .data, .data], laidTests := true, laidLooks := .later }
def WideRoundTripsUptoCardSaid : Prop := Claim7.holds Tryd.pinned (.plain (OpenSpec.upto wideRoundTripsSpec)) wideRoundTripsUptoCard

/-- THE SECOND FORM's CARD OF 'corebanklaw01.WideDivides'. -/
def wideDividesUptoCard : Claim7 := { stood := { row := wideDividesUptoRow, standIns := [], harness := (true, "ea9a5a4dbc340e4cd7363a5b7b48972e4d4a5d141b380631911d3b8b7b58d8ad"), looks := false }, kinds := [], alts := [], laidByText := true, laidKinds := [.data, .data, .data], laidTests := true, laidLooks := .later }
def WideDividesUptoCardSaid : Prop := Claim7.holds Tryd.pinned (.plain (OpenSpec.upto wideDividesSpec)) wideDividesUptoCard

/-- THE SECOND FORM's CARD OF 'corebanklaw01.WideRestores'. -/
def wideRestoresUptoCard : Claim7 := { stood := { row := wideRestoresUptoRow, standIns := [], harness := (true, "ea9a5a4dbc340e4cd7363a5b7b48972e4d4a5d141b380631911d3b8b7b58d8ad"), looks := false }, kinds := [], alts := [], laidByText := true, laidKinds := [.data, .data, .data], laidTests := true, laidLooks := .later }
def WideRestoresUptoCardSaid : Prop := Claim7.holds Tryd.pinned (.plain (OpenSpec.upto wideRestoresSpec)) wideRestoresUptoCard

/-- THE SECOND FORM's CARD OF 'corebanklaw02.RoundingDivides'. -/
def roundingDividesUptoCard : Claim7 := { stood := { row := roundingDividesUptoRow, standIns := [], harness := (true, "ea9a5a4dbc340e4cd7363a5b7b48972e4d4a5d141b380631911d3b8b7b58d8ad"), looks := false }, kinds := [], alts := [], laidByText := true, laidKinds := [.data], laidTests := true, laidLooks := .later }
def RoundingDividesUptoCardSaid : Prop := Claim7.holds Tryd.pinned (.plain (OpenSpec.upto roundingDividesSpec)) roundingDividesUptoCard

/-- THE SECOND FORM's CARD OF 'corebanklaw02.RoundingAmounts'. -/
def roundingAmountsUptoCard : Claim7 := { stood := { row := roundingAmountsUptoRow, standIns := [], harness := (true, "ea9a5a4dbc340e4cd7363a5b7b48972e4d4a5d141b380631911d3b8b7b58d8ad"), looks := false }, kinds := [], alts := [], laidByText := true, laidKinds := [.data], laidTests := true, laidLooks := .later }
def RoundingAmountsUptoCardSaid : Prop := Claim7.holds Tryd.pinned (.plain (OpenSpec.upto roundingAmountsSpec)) roundingAmountsUptoCard

/-- THE SECOND FORM's CARD OF 'corebanklaw02.RoundingPercents'. -/
def roundingPercentsUptoCard : Claim7 := { stood := { row := roundingPercentsUptoRow, standIns := [], harness := (true, "ea9a5a4dbc340e4cd7363a5b7b48972e4d4a5d141b380631911d3b8b7b58d8ad"), looks := false }, kinds := [], alts := [], laidByText := true, laidKinds := [.data], laidTests := true, laidLooks := .later }
def RoundingPercentsUptoCardSaid : Prop := Claim7.holds Tryd.pinned (.plain (OpenSpec.upto roundingPercentsSpec)) roundingPercentsUptoCard

/-- THE SECOND FORM's CARD OF 'corebanklaw02.RoundingParts'. -/
def roundingPartsUptoCard : Claim7 := { stood := { row := roundingPartsUptoRow, standIns := [], harness := (true, "ea9a5a4dbc340e4cd7363a5b7b48972e4d4a5d141b380631911d3b8b7b58d8ad"), looks := false }, kinds := [], alts := [], laidByText := true, laidKinds := [.data], laidTests := true, laidLooks := .later }
def RoundingPartsUptoCardSaid : Prop := Claim7.holds Tryd.pinned (.plain (OpenSpec.upto roundingPartsSpec)) roundingPartsUptoCard

/-- THE SECOND FORM's CARD OF 'corebanklaw02.RoundingSplits'. -/
def roundingSplitsUptoCard : Claim7 := { stood := { row := roundingSplitsUptoRow, standIns := [], harness := (true, "ea9a5a4dbc340e4cd7363a5b7b48972e4d4a5d141b380631911d3b8b7b58d8ad"), looks := false }, kinds := [], alts := [], laidByText := true, laidKinds := [.data], laidTests := true, laidLooks := .later }
def RoundingSplitsUptoCardSaid : Prop := Claim7.holds Tryd.pinned (.plain (OpenSpec.upto roundingSplitsSpec)) roundingSplitsUptoCard

/-- THE SECOND FORM's CARD OF 'corebanklaw02.RoundingSteps'. -/
def roundingStepsUptoCard : Claim7 := { stood := { row := roundingStepsUptoRow, standIns := [], harness := (true, "ea9a5a4dbc340e4cd7363a5b7b48972e4d4a5d141b380631911d3b8b7b58d8ad"), looks := false }, kinds := [], alts := [], laidByText := true, laidKinds := [.data], laidTests := true, laidLooks := .later }
def RoundingStepsUptoCardSaid : Prop := Claim7.holds Tryd.pinned (.plain (OpenSpec.upto roundingStepsSpec)) roundingStepsUptoCard

/-- THE SECOND FORM's CARD OF 'corebanklaw02.RoundingNear'. -/
def roundingNearUptoCard : Claim7 := { stood := { row := roundingNearUptoRow, standIns := [], harness := (true, "ea9a5a4dbc340e4cd7363a5b7b48972e4d4a5d141b380631911d3b8b7b58d8ad"), looks := false }, kinds := [], alts := [], laidByText := true, laidKinds := [.data], laidTests := true, laidLooks := .later }
def RoundingNearUptoCardSaid : Prop := Claim7.holds Tryd.pinned (.plain (OpenSpec.upto roundingNearSpec)) roundingNearUptoCard

/-- THE SECOND FORM's CARD OF 'corebanklaw02.RoundingMirrors'. -/
def roundingMirrorsUptoCard : Claim7 := { stood := { row := roundingMirrorsUptoRow, standIns := [], harness := (true, "ea9a5a4dbc340e4cd7363a5b7b48972e4d4a5d141b380631911d3b8b7b58d8ad"), looks := false }, kinds := [], alts := [], laidByText := true, laidKinds := [.data], laidTests := true, laidLooks := .later }
def RoundingMirrorsUptoCardSaid : Prop := Claim7.holds Tryd.pinned (.plain (OpenSpec.upto roundingMirrorsSpec)) roundingMirrorsUptoCard
end Rows
end Go.Proofs.YtfapcllhcbedlaaDoor
