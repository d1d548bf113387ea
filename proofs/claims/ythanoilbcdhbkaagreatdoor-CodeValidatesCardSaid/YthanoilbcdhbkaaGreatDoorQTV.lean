/-
  Tokens: contracts of the document's own digit, plain, form.
-/
import Derived.Test.YthanoilbcdhbkaaGreatDoorQA
namespace Go.Proofs.YthanoilbcdhbkaaGreatDoor
open Go Go.RowKit Go.Lib WM TM

end Go.Proofs.YthanoilbcdhbkaaGreatDoor
