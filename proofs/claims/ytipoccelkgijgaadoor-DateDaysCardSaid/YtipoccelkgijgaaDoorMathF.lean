/-
  Reading decimal digits: values of digit strings, plain.
-/
import Derived.Test.YtipoccelkgijgaaDoorMathE
namespace Go.Proofs.YtipoccelkgijgaaDoor.WM
open Go Go.RowKit Go.Lib

def dig (c : UInt8) : Bool := decide (48 ≤ (c.toNat : Int) ∧ (c.toNat : Int) ≤ 57)
def allDig (l : List UInt8) : Bool := l.all dig
/-- The value of a string of digits, behind a value a. -/
def dvalA (a : Nat) (l : List UInt8) : Nat := l.foldl (fun a c => a * 10 + (c.toNat - 48)) a
def dval (l : List UInt8) : Nat := dvalA 0 l
theorem dvalA_snoc (a : Nat) (l : List UInt8) (c : UInt8) : dvalA a (l ++ [c]) = dvalA a l * 10 + (c.toNat - 48) := by simp [dvalA]
theorem dvalA_app (a : Nat) (l m : List UInt8) : dvalA a (l ++ m) = dvalA (dvalA a l) m := by simp [dvalA]
theorem dvalA_eq (l : List UInt8) : ∀ a, dvalA a l = a * 10 ^ l.length + dval l := by
  induction l with
  | nil => intro a; simp [dvalA, dval]
  | cons c l ih =>
    intro a
    have e1 : dvalA a (c :: l) = dvalA (a * 10 + (c.toNat - 48)) l := rfl
    have e2 : dval (c :: l) = dvalA (0 * 10 + (c.toNat - 48)) l := rfl
    rw [e1, e2, ih, ih (0 * 10 + _), List.length_cons, Nat.pow_succ, Nat.add_mul, Nat.mul_assoc, Nat.mul_comm 10, Nat.add_assoc]
    simp
theorem dval_app (l m : List UInt8) : dval (l ++ m) = dval l * 10 ^ m.length + dval m := by
  unfold dval; rw [dvalA_app, dvalA_eq]; rfl
theorem dval_snoc (l : List UInt8) (c : UInt8) : dval (l ++ [c]) = dval l * 10 + (c.toNat - 48) := dvalA_snoc 0 l c
theorem dvalA_lt (l : List UInt8) : ∀ a, allDig l = true → dvalA a l < (a + 1) * 10 ^ l.length := by
  induction l with
  | nil => intro a _; simp [dvalA]
  | cons c l ih =>
    intro a h
    simp only [allDig, List.all_cons, Bool.and_eq_true, dig, decide_eq_true_eq] at h
    have h1 := ih (a * 10 + (c.toNat - 48)) h.2
    have h2 : (a * 10 + (c.toNat - 48) + 1) * 10 ^ l.length ≤ ((a + 1) * 10) * 10 ^ l.length := Nat.mul_le_mul_right _ (by omega)
    have e1 : dvalA a (c :: l) = dvalA (a * 10 + (c.toNat - 48)) l := rfl
    rw [e1, List.length_cons, Nat.pow_succ, Nat.mul_comm (10 ^ l.length) 10, ← Nat.mul_assoc]
    omega
theorem dval_lt (l : List UInt8) (h : allDig l = true) : dval l < 10 ^ l.length := by
  have := dvalA_lt l 0 h
  rw [Nat.zero_add, Nat.one_mul] at this
  exact this
theorem allDig_snoc (l : List UInt8) (c : UInt8) : allDig (l ++ [c]) = (allDig l && dig c) := by simp [allDig]
theorem take_snoc (s : ByteArray) (k : Nat) (h : k < s.size) : s.data.toList.take (k + 1) = s.data.toList.take k ++ [s[k]] := by
  rw [List.take_succ_eq_append_getElem (by simpa using h)]; rfl
theorem drop_take_snoc (s : ByteArray) (k j : Nat) (hk : k ≤ j) (h : j < s.size) : (s.data.toList.take (j + 1)).drop k = (s.data.toList.take j).drop k ++ [s[j]] := by
  rw [take_snoc s j h, List.drop_append_of_le_length]
  have hl : s.data.toList.length = s.size := by rw [Array.length_toList]; rfl
  rw [List.length_take]; omega
theorem allDig_take (l : List UInt8) (j : Nat) (h : allDig l = true) : allDig (l.take j) = true := by
  unfold allDig at *
  rw [List.all_eq_true] at *
  intro x hx
  exact h x (List.mem_of_mem_take hx)
/-- What readDigits finds. -/
def rdErr (l : List UInt8) : Int := if allDig l then (if fitsM (dval l : Int) then 0 else 6) else 2
def rdVal (l : List UInt8) : Int := if rdErr l = 0 then (dval l : Int) else 0
theorem rd_bad (s : ByteArray) (j : Nat) (h : j < s.size) (hd : dig s[j] = false) : rdErr s.data.toList = 2 ∧ rdVal s.data.toList = 0 := by
  have ha : allDig s.data.toList = false := by
    cases h' : allDig s.data.toList
    · rfl
    · have := allDig_take _ (j + 1) h'
      rw [take_snoc s j h, allDig_snoc, hd, Bool.and_false] at this
      cases this
  have e : rdErr s.data.toList = 2 := by simp [rdErr, ha]
  exact ⟨e, by simp [rdVal, e]⟩
theorem rd_ok (l : List UInt8) (ha : allDig l = true) (hf : fitsM (dval l : Int) = true) : rdErr l = 0 ∧ rdVal l = dval l := by
  have e : rdErr l = 0 := by simp [rdErr, ha, hf]
  exact ⟨e, by simp [rdVal, e]⟩
theorem rd_over (l : List UInt8) (ha : allDig l = true) (hf : fitsM (dval l : Int) = false) : rdErr l = 6 ∧ rdVal l = 0 := by
  have e : rdErr l = 6 := by simp [rdErr, ha, hf]
  exact ⟨e, by simp [rdVal, e]⟩
theorem fits_mono {a b : Nat} (h : a ≤ b) (hf : fitsM (a : Int) = false) : fitsM (b : Int) = false := by
  simp only [fitsM, decide_eq_false_iff_not] at *; omega
/-- One block more. -/
theorem block_step (l : List UInt8) (k j : Nat) (hk : k ≤ j) (hj : j ≤ l.length) : dval (l.take j) = dval (l.take k) * 10 ^ (j - k) + dval ((l.take j).drop k) := by
  have e : l.take j = l.take k ++ (l.take j).drop k := by
    have h1 : (l.take j).take k = l.take k := by rw [List.take_take, Nat.min_eq_left hk]
    rw [← h1, List.take_append_drop]
  have hl : ((l.take j).drop k).length = j - k := by rw [List.length_drop, List.length_take]; omega
  conv => lhs; rw [e, dval_app, hl]
theorem pow10_le {j : Nat} (h : j ≤ 19) : (10 : Nat) ^ j ≤ 10000000000000000000 := by
  have h2 : (10 : Nat) ^ j ≤ 10 ^ 19 := Nat.pow_le_pow_right (by decide) h
  have e10 : (10 : Nat) ^ 19 = 10000000000000000000 := by decide
  omega
theorem fits0 : fitsM 0 = true := by simp [fitsM]
theorem start0 (l : List UInt8) : fitsM (dval (l.take 0)) = true ∧ mH (keepM (dval (l.take 0))) = 0 ∧ mL (keepM (dval (l.take 0))) = 0 := by
  have e : ((dval (l.take 0) : Nat) : Int) = 0 := by rw [List.take_zero]; rfl
  rw [e, keepM_yes fits0]
  exact ⟨fits0, by unfold mH; omega, by unfold mL; omega⟩
theorem allDig_drop (l : List UInt8) (j : Nat) (h : allDig l = true) : allDig (l.drop j) = true := by
  unfold allDig at *
  rw [List.all_eq_true] at *
  intro x hx
  exact h x (List.mem_of_mem_drop hx)
theorem pow10_le18 {j : Nat} (h : j ≤ 18) : (10 : Nat) ^ j ≤ 1000000000000000000 := by
  have h2 : (10 : Nat) ^ j ≤ 10 ^ 18 := Nat.pow_le_pow_right (by decide) h
  have e10 : (10 : Nat) ^ 18 = 1000000000000000000 := by decide
  omega
end Go.Proofs.YtipoccelkgijgaaDoor.WM
