/-
  The plain arithmetic of Div.
-/
import Derived.Test.YtipoccelkgijgaaDoorMathB
namespace Go.Proofs.YtipoccelkgijgaaDoor.WM
open Go Go.RowKit

theorem divide_eq {h l d : Int} (hd0 : 0 < d) (hl : U64 l) (hd : U64 d) :
    h / d = mH (val h l / d) ∧ val (h % d) l / d = mL (val h l / d) ∧ val (h % d) l % d = val h l % d := by
  have e := Int.mul_ediv_add_emod h d
  have m0 := Int.emod_nonneg h (Int.ne_of_gt hd0)
  have m1 := Int.emod_lt_of_pos h hd0
  have e1 : val h l = val (h % d) l + (h / d * 18446744073709551616) * d := by
    unfold val
    rw [Int.mul_right_comm, Int.mul_comm (h / d) d]
    generalize d * (h / d) = x at *
    omega
  have e2 : val h l / d = val (h % d) l / d + h / d * 18446744073709551616 := by rw [e1, Int.add_mul_ediv_right _ _ (Int.ne_of_gt hd0)]
  have e3 : val h l % d = val (h % d) l % d := by rw [e1, Int.add_mul_emod_self_right]
  have b0 : 0 ≤ val (h % d) l / d := Int.ediv_nonneg (by unfold val U64 at *; omega) (Int.le_of_lt hd0)
  have b1 : val (h % d) l / d < 18446744073709551616 := by
    apply Int.ediv_lt_of_lt_mul hd0
    unfold val U64 at *
    generalize h % d = r at *
    omega
  refine ⟨?_, ?_, e3.symm⟩
  · unfold mH; rw [e2]; generalize h / d = q at *; generalize val (h % d) l / d = p at *; omega
  · unfold mL; rw [e2]; generalize h / d = q at *; generalize val (h % d) l / d = p at *; omega
theorem div_signs {v n : Int} (hn : 0 < n) (hv : -170141183460469231731687303715884105728 ≤ v ∧ v ≤ 170141183460469231731687303715884105727) :
    0 ≤ absW v / n ∧ absW v / n ≤ 170141183460469231731687303715884105728 ∧ 0 ≤ absW v % n ∧ absW v % n < n ∧
    (0 ≤ v → signed false (absW v / n) = v / n ∧ absW v % n = v % n) ∧
    (v < 0 → absW v % n = 0 → signed true (absW v / n) = v / n ∧ absW v % n = v % n) ∧
    (v < 0 → absW v % n ≠ 0 → signed true (absW v / n + 1) = v / n ∧ n - absW v % n = v % n) := by
  have a0 := absW_nonneg v
  have e := Int.mul_ediv_add_emod (absW v) n
  have r0 := Int.emod_nonneg (absW v) (Int.ne_of_gt hn)
  have r1 := Int.emod_lt_of_pos (absW v) hn
  have q0 := Int.ediv_nonneg a0 (Int.le_of_lt hn)
  have q1 := Int.ediv_le_self n a0
  have ab : absW v ≤ 170141183460469231731687303715884105728 := by unfold absW; split <;> omega
  refine ⟨q0, by omega, r0, r1, fun h => ?_, fun h hz => ?_, fun h hz => ?_⟩
  · have ha : absW v = v := by unfold absW; rw [if_neg (by omega)]
    rw [ha]
    exact ⟨by unfold signed; simp, rfl⟩
  · have ha : absW v = -v := by unfold absW; rw [if_pos h]
    generalize absW v / n = q at *
    generalize absW v % n = r at *
    have := (Int.ediv_emod_unique (a := v) (b := n) (r := 0) (q := -q) hn).2 ⟨by rw [Int.mul_neg]; omega, by omega, by omega⟩
    refine ⟨by unfold signed; rw [if_pos rfl]; exact this.1.symm, by rw [hz]; exact this.2.symm⟩
  · have ha : absW v = -v := by unfold absW; rw [if_pos h]
    generalize absW v / n = q at *
    generalize absW v % n = r at *
    have := (Int.ediv_emod_unique (a := v) (b := n) (r := n - r) (q := -(q + 1)) hn).2 ⟨by rw [Int.mul_neg, Int.mul_add, Int.mul_one]; omega, by omega, by omega⟩
    exact ⟨by unfold signed; rw [if_pos rfl]; exact this.1.symm, this.2.symm⟩
end Go.Proofs.YtipoccelkgijgaaDoor.WM
