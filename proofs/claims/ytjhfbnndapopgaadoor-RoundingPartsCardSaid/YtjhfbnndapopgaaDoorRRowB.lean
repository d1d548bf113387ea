/-
  What a row over package rounding asks besides its walk: a start that fits.
-/
import Derived.Test.YtjhfbnndapopgaaDoorRRow
namespace Go.Proofs.YtjhfbnndapopgaaDoor
open Go Go.ChangeShapes Go.WideShapes Go.ChangeAt Go.RowKit Go.Joins WM
theorem chLaid_met (os : Os) (args : Array Value) : laidMet Tryd.prog Rows.roundingDividesRow.laid ((tabWorld os).forCall (fun _ _ => 0) ⟨#[], args, []⟩).memory :=
  laidMet_of_run' 8 (by kernel_rfl) (by kernel_rfl)
theorem laid_same1 : Rows.roundingPercentsRow.laid = Rows.roundingDividesRow.laid := rfl
theorem laid_same2 : Rows.roundingStepsRow.laid = Rows.roundingDividesRow.laid := rfl
theorem laid_same3 : Rows.roundingAmountsRow.laid = Rows.roundingDividesRow.laid := rfl
theorem laid_same4 : Rows.roundingNearRow.laid = Rows.roundingDividesRow.laid := rfl
theorem laid_same5 : Rows.roundingMirrorsRow.laid = Rows.roundingDividesRow.laid := rfl
theorem laid_same6 : Rows.roundingPartsRow.laid = Rows.roundingDividesRow.laid := rfl
theorem laid_same7 : Rows.roundingSplitsRow.laid = Rows.roundingDividesRow.laid := rfl
end Go.Proofs.YtjhfbnndapopgaaDoor
