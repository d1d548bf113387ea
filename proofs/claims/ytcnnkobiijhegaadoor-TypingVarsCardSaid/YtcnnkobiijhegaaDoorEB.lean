/-
  The document's Same, Operands, the greatest N, Rank.
-/
import Derived.Test.YtcnnkobiijhegaaDoorEA
namespace Go.Proofs.YtcnnkobiijhegaaDoor
open Go Go.RowKit Go.Lib WM TM EM

/-- Two expressions are equal. -/
noncomputable def same (a b : Ex) : Bool := @decide (a = b) (Classical.propDecidable _)
theorem same_yes {a b : Ex} (h : a = b) : same a b = true := by unfold same; exact @decide_eq_true _ (Classical.propDecidable _) h
theorem same_no {a b : Ex} (h : a ≠ b) : same a b = false := by unfold same; exact @decide_eq_false _ (Classical.propDecidable _) h
theorem ex_eta (e : Ex) : e = .mk e.op e.n e.s e.args := by cases e; rfl
theorem toList_str (s : List UInt8) : (str s).toList = s := by rw [toList_data, str_list]
theorem str_ne {x y : List UInt8} (h : x ≠ y) : ((str x).toList == (str y).toList) = false := by
  rw [toList_str, toList_str]
  simpa using h
theorem take_gx {α : Type} (d : α) (l : List α) (k : Nat) (h : k < l.length) : l.take (k + 1) = l.take k ++ [l.getD k d] := by
  rw [List.take_succ_eq_append_getElem h]; simp [List.getD, h]
theorem take_ne' (l m : List Ex) (k : Nat) (hne : l.getD k E0 ≠ m.getD k E0) : l ≠ m := by
  intro e; subst e; exact hne rfl
theorem take_all_eq {l m : List Ex} (hl : l.length = m.length) (h : l.take l.length = m.take l.length) : l = m := by
  rw [List.take_length] at h
  rw [hl, List.take_length] at h
  exact h

end Go.Proofs.YtcnnkobiijhegaaDoor
