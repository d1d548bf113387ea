/-
  Parse, plain: the number with a decimal form, or the error.
-/
import Derived.Test.YtipoccelkgijgaaDoorMathF
import Derived.Lib.Strings
namespace Go.Proofs.YtipoccelkgijgaaDoor.WM
open Go Go.RowKit Go.Lib

def isNeg (l : List UInt8) : Bool := Lib.hasPrefix l [45]
def digs (l : List UInt8) : List UInt8 := Lib.trimPrefix l [45]
def shortB (l : List UInt8) (neg : Bool) : Bool := match l with
  | [] => false
  | c :: t => (c != 48) || (t.isEmpty && !neg)
def pE (l : List UInt8) : Int := if shortB (digs l) (isNeg l) then (if rdErr (digs l) = 0 then wE (signed (isNeg l) (rdVal (digs l))) else rdErr (digs l)) else 2
def pV (l : List UInt8) : Int := if shortB (digs l) (isNeg l) then (if rdErr (digs l) = 0 then signed (isNeg l) (rdVal (digs l)) else 0) else 0
theorem p_short (l : List UInt8) (h : shortB (digs l) (isNeg l) = false) : pE l = 2 ∧ pV l = 0 := by simp [pE, pV, h]
theorem p_read (l : List UInt8) (h : shortB (digs l) (isNeg l) = true) (hr : rdErr (digs l) ≠ 0) : pE l = rdErr (digs l) ∧ pV l = 0 := by simp [pE, pV, h, hr]
theorem p_ok (l : List UInt8) (h : shortB (digs l) (isNeg l) = true) (hr : rdErr (digs l) = 0) : pE l = wE (signed (isNeg l) (rdVal (digs l))) ∧ pV l = signed (isNeg l) (rdVal (digs l)) := by simp [pE, pV, h, hr]
theorem w_zero : wH 0 = 0 ∧ wL 0 = 0 := by
  have h : inW 0 = true := by rw [inW_iff]; omega
  rw [wH_in h, wL_in h]; omega
theorem rdErr_cases (l : List UInt8) : rdErr l = 0 ∨ rdErr l = 2 ∨ rdErr l = 6 := by
  unfold rdErr; split
  · split <;> simp
  · simp
theorem rdVal_bd (l : List UInt8) : 0 ≤ rdVal l ∧ rdVal l < 340282366920938463463374607431768211456 := by
  unfold rdVal
  split
  · rename_i h
    unfold rdErr at h
    split at h
    · split at h
      · rename_i h2; simp only [fitsM, decide_eq_true_eq] at h2; omega
      · omega
    · omega
  · omega
theorem digs_length (l : List UInt8) : (digs l).length ≤ l.length := by
  unfold digs trimPrefix
  split
  · rw [List.length_drop]; omega
  · omega
end Go.Proofs.YtipoccelkgijgaaDoor.WM
