/-
  Numbers as the document writes and reads them: contracts of its Int, Natural and TakeInt.
-/
import Derived.Test.YthanoilbcdhbkaaGreatDoorQTY
namespace Go.Proofs.YthanoilbcdhbkaaGreatDoor
open Go Go.RowKit Go.Lib WM

end Go.Proofs.YthanoilbcdhbkaaGreatDoor
