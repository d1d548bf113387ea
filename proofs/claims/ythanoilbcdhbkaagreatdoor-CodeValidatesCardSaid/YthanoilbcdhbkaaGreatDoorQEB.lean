/-
  The document's Same, Operands, the greatest N, Rank.
-/
import Derived.Test.YthanoilbcdhbkaaGreatDoorQEA
namespace Go.Proofs.YthanoilbcdhbkaaGreatDoor
open Go Go.RowKit Go.Lib WM TM EM

noncomputable def same (a b : Ex) : Bool := @decide (a = b) (Classical.propDecidable _)
theorem toList_str (s : List UInt8) : (str s).toList = s := by rw [toList_data, str_list]
theorem str_ne {x y : List UInt8} (h : x ≠ y) : ((str x).toList == (str y).toList) = false := by
 rw [toList_str, toList_str]
 simpa using h
theorem take_gx {α : Type} (d : α) (l : List α) (k : Nat) (h : k < l.length) : l.take (k + 1) = l.take k ++ [l.getD k d] := by
 rw [List.take_succ_eq_append_getElem h]; simp [List.getD, h]
end Go.Proofs.YthanoilbcdhbkaaGreatDoor
