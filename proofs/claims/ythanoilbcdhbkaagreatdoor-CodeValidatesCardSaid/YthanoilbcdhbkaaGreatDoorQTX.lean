/-
  Tokens: contracts of the document's own Rate, digits, Percent.
-/
import Derived.Test.YthanoilbcdhbkaaGreatDoorQTV
namespace Go.Proofs.YthanoilbcdhbkaaGreatDoor
open Go Go.RowKit Go.Lib WM TM

end Go.Proofs.YthanoilbcdhbkaaGreatDoor
