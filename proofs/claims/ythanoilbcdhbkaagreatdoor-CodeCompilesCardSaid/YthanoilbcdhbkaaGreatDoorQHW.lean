/-
  Numbers as the document writes and reads them: contracts of its Int, Natural and TakeInt.
-/
import Derived.Test.YthanoilbcdhbkaaGreatDoorQTY
namespace Go.Proofs.YthanoilbcdhbkaaGreatDoor
open Go Go.RowKit Go.Lib WM

theorem str_isEmpty (s : List UInt8) : (str s).toList.isEmpty = s.isEmpty := by rw [Lib.toList_data, str_list]
end Go.Proofs.YthanoilbcdhbkaaGreatDoor
