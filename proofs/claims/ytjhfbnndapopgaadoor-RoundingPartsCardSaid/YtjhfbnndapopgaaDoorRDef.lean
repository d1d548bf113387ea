/-
  What Divide and Percent return, plain.
-/
import Derived.Test.YtjhfbnndapopgaaDoorRA
import Derived.Test.YtjhfbnndapopgaaDoorMath
namespace Go.Proofs.YtjhfbnndapopgaaDoor
open Go Go.RowKit WM

/-- What Divide returns. -/
def dQ (v n m : Int) : Int := if decide (1 ≤ n) && validB m then toInt (quoI v n m) else 0
def dE (v n m : Int) : Int := if decide (1 ≤ n) && validB m then (if isInt (quoI v n m) then 0 else 6) else 1
/-- What Percent returns. -/
def pQ (a p m : Int) : Int := if goodB a && decide (0 ≤ p ∧ p ≤ 1000000) then dQ (a * p) 1000000 m else 0
def pE' (a p m : Int) : Int := if goodB a && decide (0 ≤ p ∧ p ≤ 1000000) then dE (a * p) 1000000 m else 1
theorem prod_in {a b : Int} (ha : I64 a) (hb : I64 b) : inW (a * b) = true := by
  rw [inW_iff]
  unfold I64 at *
  have h1 : absW (a * b) = absW a * absW b := (absW_mul a b).symm
  have h2 : absW a * absW b ≤ 9223372036854775808 * 9223372036854775808 :=
    Int.mul_le_mul (by unfold absW; split <;> omega) (by unfold absW; split <;> omega) (absW_nonneg _) (by decide)
  rw [← h1] at h2
  have h4 := absW_nonneg (a * b)
  have h3 : absW (a * b) = a * b ∨ absW (a * b) = -(a * b) := by unfold absW; split <;> simp
  generalize a * b = p at *
  omega
end Go.Proofs.YtjhfbnndapopgaaDoor
