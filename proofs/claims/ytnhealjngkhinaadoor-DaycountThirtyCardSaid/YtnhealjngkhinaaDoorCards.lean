/-
  DERIVED. GIVEN WITH THE SEED: THE CARDS: each row of YtnhealjngkhinaaDoorRows.lean that lists a variable, with what it lists TIED to the program's text (the seventh form; the later family's looks); each row that meets fmt, with fmt's text TOLD by the authors' own Lean function (tested against real Go, not proved from fmt's source: count such statements apart). THE CARD IS WHAT COUNTS. Prove the row's statement (the work); the ties are given (YtnhealjngkhinaaDoorTie.lean); close each card by the builder's one call (the guide's Derived/Test/ToyasCard.lean, 'card_holds'). Laid BY PROGRAM, IN A SANDBOX (cutbox-door.mjs). By AI agents, Wed Nov 11 2026. No macro, syntax, notation, axiom, sorry.
-/
import Derived.Test.YtnhealjngkhinaaDoorRows
import GoSem.ClaimSeven
namespace Go.Proofs.YtnhealjngkhinaaDoor
namespace Rows

/-- THE TIED CARD OF 'corebanklaw01.WideDivides'. -/
def wideDividesCard : Claim7 := { stood := { row := wideDividesRow, standIns := [], harness := (true, "ec39cdb9582286a5be2de5aa72b9a4c422ce7612f22f1b59a364105bf689103c"), looks := false }, kinds := [], alts := [], laidByText := true, laidKinds := [.data, .data, .data], laidTests := true, laidLooks := .later }
def WideDividesCardSaid : Prop := Claim7.holds Tryd.pinned (.plain (OpenSpec.ofChange wideDividesSpec)) wideDividesCard

/-- THE TIED CARD OF 'corebanklaw06.DaycountWeights'. -/
def daycountWeightsCard : Claim7 := { stood := { row := daycountWeightsRow, standIns := [], harness := (true, "ec39cdb9582286a5be2de5aa72b9a4c422ce7612f22f1b59a364105bf689103c"), looks := false }, kinds := [], alts := [], laidByText := true, laidKinds := [.data], laidTests := true, laidLooks := .later }
def DaycountWeightsCardSaid : Prop := Claim7.holds Tryd.pinned (.plain (OpenSpec.ofChange daycountWeightsSpec)) daycountWeightsCard

/-- THE TIED CARD OF 'corebanklaw06.DaycountThirty'. -/
def daycountThirtyCard : Claim7 := { stood := { row := daycountThirtyRow, standIns := [], harness := (true, "ec39cdb9582286a5be2de5aa72b9a4c422ce7612f22f1b59a364105bf689103c"), looks := false }, kinds := [], alts := [], laidByText := true, laidKinds := [.data], laidTests := true, laidLooks := .later }
def DaycountThirtyCardSaid : Prop := Claim7.holds Tryd.pinned (.plain (OpenSpec.ofChange daycountThirtySpec)) daycountThirtyCard

/-- THE TIED CARD OF 'corebanklaw06.DaycountSums'. -/
def daycountSumsCard : Claim7 := { stood := { row := daycountSumsRow, standIns := [], harness := (true, "ec39cdb9582286a5be2de5aa72b9a4c422ce7612f22f1b59a364105bf689103c"), looks := false }, kinds := [], alts := [], laidByText := true, laidKinds := [.data], laidTests := true, laidLooks := .later }
def DaycountSumsCardSaid : Prop := Claim7.holds Tryd.pinned (.plain (OpenSpec.ofChange daycountSumsSpec)) daycountSumsCard

/-- THE TIED CARD OF 'corebanklaw06.DaycountAdds'. -/
def daycountAddsCard : Claim7 := { stood := { row := daycountAddsRow, standIns := [], harness := (true, "ec39cdb9582286a5be2de5aa72b9a4c422ce7612f22f1b59a364105bf689103c"), looks := false }, kinds := [], alts := [], laidByText := true, laidKinds := [.data], laidTests := true, laidLooks := .later }
def DaycountAddsCardSaid : Prop := Claim7.holds Tryd.pinned (.plain (OpenSpec.ofChange daycountAddsSpec)) daycountAddsCard

/-- THE TIED CARD OF 'corebanklaw06.DaycountInterest'. -/
def daycountInterestCard : Claim7 := { stood := { row := daycountInterestRow, standIns := [], harness := (true, "ec39cdb9582286a5be2de5aa72b9a4c422ce7612f22f1b59a364105bf689103c"), looks := false }, kinds := [], alts := [], laidByText := true, laidKinds := [.data], laidTests := true, laidLooks := .later }
def DaycountInterestCardSaid : Prop := Claim7.holds Tryd.pinned (.plain (OpenSpec.ofChange daycountInterestSpec)) daycountInterestCard

/-- THE TIED CARD OF 'corebanklaw06.DaycountSplits'. -/
def daycountSplitsCard : Claim7 := { stood := { row := daycountSplitsRow, standIns := [], harness := (true, "ec39cdb9582286a5be2de5aa72b9a4c422ce7612f22f1b59a364105bf689103c"), looks := false }, kinds := [], alts := [], laidByText := true, laidKinds := [.data], laidTests := true, laidLooks := .later }
def DaycountSplitsCardSaid : Prop := Claim7.holds Tryd.pinned (.plain (OpenSpec.ofChange daycountSplitsSpec)) daycountSplitsCard

/-- THE TIED CARD OF 'corebanklaw06.DaycountYears'. -/
def daycountYearsCard : Claim7 := { stood := { row := daycountYearsRow, standIns := [], harness := (true, "ec39cdb9582286a5be2de5aa72b9a4c422ce7612f22f1b59a364105bf689103c"), looks := false }, kinds := [], alts := [], laidByText := true, laidKinds := [.data], laidTests := true, laidLooks := .later }
def DaycountYearsCardSaid : Prop := Claim7.holds Tryd.pinned (.plain (OpenSpec.ofChange daycountYearsSpec)) daycountYearsCard

/-- THE SECOND FORM's CARD OF 'corebanklaw01.WideDivides'. -/
def wideDividesUptoCard : Claim7 := { stood := { row := wideDividesUptoRow, standIns := [], harness := (true, "ec39cdb9582286a5be2de5aa72b9a4c422ce7612f22f1b59a364105bf689103c"), looks := false }, kinds := [], alts := [], laidByText := true, laidKinds := [.data, .data, .data], laidTests := true, laidLooks := .later }
def WideDividesUptoCardSaid : Prop := Claim7.holds Tryd.pinned (.plain (OpenSpec.upto wideDividesSpec)) wideDividesUptoCard

/-- THE SECOND FORM's CARD OF 'corebanklaw06.DaycountWeights'. -/
def daycountWeightsUptoCard : Claim7 := { stood := { row := daycountWeightsUptoRow, standIns := [], harness := (true, "ec39cdb9582286a5be2de5aa72b9a4c422ce7612f22f1b59a364105bf689103c"), looks := false }, kinds := [], alts := [], laidByText := true, laidKinds := [.data], laidTests := true, laidLooks := .later }
def DaycountWeightsUptoCardSaid : Prop := Claim7.holds Tryd.pinned (.plain (OpenSpec.upto daycountWeightsSpec)) daycountWeightsUptoCard

/-- THE SECOND FORM's CARD OF 'corebanklaw06.DaycountThirty'. -/
def daycountThirtyUptoCard : Claim7 := { stood := { row := daycountThirtyUptoRow, standIns := [], harness := (true, "ec39cdb9582286a5be2de5aa72b9a4c422ce7612f22f1b59a364105bf689103c"), looks := false }, kinds := [], alts := [], laidByText := true, laidKinds := [.data], laidTests := true, laidLooks := .later }
def DaycountThirtyUptoCardSaid : Prop := Claim7.holds Tryd.pinned (.plain (OpenSpec.upto daycountThirtySpec)) daycountThirtyUptoCard

/-- THE SECOND FORM's CARD OF 'corebanklaw06.DaycountSums'. -/
def daycountSumsUptoCard : Claim7 := { stood := { row := daycountSumsUptoRow, standIns := [], harness := (true, "ec39cdb9582286a5be2de5aa72b9a4c422ce7612f22f1b59a364105bf689103c"), looks := false }, kinds := [], alts := [], laidByText := true, laidKinds := [.data], laidTests := true, laidLooks := .later }
def DaycountSumsUptoCardSaid : Prop := Claim7.holds Tryd.pinned (.plain (OpenSpec.upto daycountSumsSpec)) daycountSumsUptoCard

/-- THE SECOND FORM's CARD OF 'corebanklaw06.DaycountAdds'. -/
def daycountAddsUptoCard : Claim7 := { stood := { row := daycountAddsUptoRow, standIns := [], harness := (true, "ec39cdb9582286a5be2de5aa72b9a4c422ce7612f22f1b59a364105bf689103c"), looks := false }, kinds := [], alts := [], laidByText := true, laidKinds := [.data], laidTests := true, laidLooks := .later }
def DaycountAddsUptoCardSaid : Prop := Claim7.holds Tryd.pinned (.plain (OpenSpec.upto daycountAddsSpec)) daycountAddsUptoCard

/-- THE SECOND FORM's CARD OF 'corebanklaw06.DaycountInterest'. -/
def daycountInterestUptoCard : Claim7 := { stood := { row := daycountInterestUptoRow, standIns := [], harness := (true, "ec39cdb9582286a5be2de5aa72b9a4c422ce7612f22f1b59a364105bf689103c"), looks := false }, kinds := [], alts := [], laidByText := true, laidKinds := [.data], laidTests := true, laidLooks := .later }
def DaycountInterestUptoCardSaid : Prop := Claim7.holds Tryd.pinned (.plain (OpenSpec.upto daycountInterestSpec)) daycountInterestUptoCard

/-- THE SECOND FORM's CARD OF 'corebanklaw06.DaycountSplits'. -/
def daycountSplitsUptoCard : Claim7 := { stood := { row := daycountSplitsUptoRow, standIns := [], harness := (true, "ec39cdb9582286a5be2de5aa72b9a4c422ce7612f22f1b59a364105bf689103c"), looks := false }, kinds := [], alts := [], laidByText := true, laidKinds := [.data], laidTests := true, laidLooks := .later }
def DaycountSplitsUptoCardSaid : Prop := Claim7.holds Tryd.pinned (.plain (OpenSpec.upto daycountSplitsSpec)) daycountSplitsUptoCard

/-- THE SECOND FORM's CARD OF 'corebanklaw06.DaycountYears'. -/
def daycountYearsUptoCard : Claim7 := { stood := { row := daycountYearsUptoRow, standIns := [], harness := (true, "ec39cdb9582286a5be2de5aa72b9a4c422ce7612f22f1b59a364105bf689103c"), looks := false }, kinds := [], alts := [], laidByText := true, laidKinds := [.data], laidTests := true, laidLooks := .later }
def DaycountYearsUptoCardSaid : Prop := Claim7.holds Tryd.pinned (.plain (OpenSpec.upto daycountYearsSpec)) daycountYearsUptoCard
end Rows
end Go.Proofs.YtnhealjngkhinaaDoor
