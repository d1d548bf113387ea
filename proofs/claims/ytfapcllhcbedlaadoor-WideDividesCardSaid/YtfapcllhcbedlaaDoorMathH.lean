/-
  A number is its quotient times the divisor plus the remainder, plain.
-/
import Derived.Test.YtfapcllhcbedlaaDoorMathD
namespace Go.Proofs.YtfapcllhcbedlaaDoor.WM
open Go Go.RowKit

theorem div_parts {v n : Int} (hn : 1 ≤ n) (hn2 : I64 n) (hv : inW v = true) :
    inW (v / n) = true ∧ 0 ≤ v % n ∧ v % n < n ∧ I64 (v % n) ∧ v / n * n + v % n = v ∧
    (inW (v / n * n) = false → 0 < v % n ∧ v < 0 ∧ inW (v / n + 1) = true ∧ inW ((v / n + 1) * n) = true ∧ I64 (n - v % n) ∧ (v / n + 1) * n - (n - v % n) = v) := by
  rw [inW_iff] at hv
  have e := Int.mul_ediv_add_emod v n
  have r0 := Int.emod_nonneg v (show n ≠ 0 by omega)
  have r1 := Int.emod_lt_of_pos v (show 0 < n by omega)
  rw [Int.mul_comm] at e
  have hq : inW (v / n) = true := by
    rw [inW_iff]
    rcases Int.lt_or_le v 0 with c | c
    · have h1 : v / n < 0 := Int.ediv_neg_of_neg_of_pos c (by omega)
      have h2 : v / n * n ≤ v / n * 1 := Int.mul_le_mul_of_nonpos_left (by omega) (by omega)
      have h3 : -170141183460469231731687303715884105728 ≤ v / n := by
        apply Int.le_ediv_of_mul_le (by omega)
        have : (-170141183460469231731687303715884105728 : Int) * n ≤ -170141183460469231731687303715884105728 * 1 := Int.mul_le_mul_of_nonpos_left (by decide) (by omega)
        omega
      omega
    · have h1 := Int.ediv_nonneg c (show 0 ≤ n by omega)
      have h2 := Int.ediv_le_self n c
      omega
  refine ⟨hq, r0, r1, by unfold I64 at *; omega, e, fun h => ?_⟩
  rw [inW_not] at h
  have e2 : (v / n + 1) * n = v / n * n + n := by rw [Int.add_mul, Int.one_mul]
  rw [inW_iff] at hq
  have hneg : v / n * n < -170141183460469231731687303715884105728 := by omega
  have hq1 : v / n < 0 := by
    rcases Int.lt_or_le (v / n) 0 with c | c
    · exact c
    · have := Int.mul_nonneg c (show 0 ≤ n by omega)
      omega
  rw [e2]
  unfold I64 at *
  refine ⟨by omega, by omega, by rw [inW_iff]; omega, by rw [inW_iff]; omega, by omega, by omega⟩
end Go.Proofs.YtfapcllhcbedlaaDoor.WM
