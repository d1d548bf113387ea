/-
  What Amount returns, plain.
-/
import Derived.Test.YtjhfbnndapopgaaDoorRSMath
namespace Go.Proofs.YtjhfbnndapopgaaDoor
open Go Go.RowKit WM

def aQ (v m : Int) : Int := if dE v 1603080000000 m = 0 then (if goodB (dQ v 1603080000000 m) then dQ v 1603080000000 m else 0) else 0
def aR (v m : Int) : Int := if dE v 1603080000000 m = 0 then (if goodB (dQ v 1603080000000 m) then v - 1603080000000 * dQ v 1603080000000 m else 0) else 0
def aE (v m : Int) : Int := if dE v 1603080000000 m = 0 then (if goodB (dQ v 1603080000000 m) then 0 else 6) else dE v 1603080000000 m
theorem sz8r {b n : Nat} (h : b < n) : b < n + 1 ∧ b < n + 1 + 1 ∧ b < n + 1 + 1 + 1 ∧ b < n + 1 + 1 + 1 + 1 ∧ b ≤ n ∧ b ≤ n + 1 ∧ b ≤ n + 1 + 1 ∧ b ≤ n + 1 + 1 + 1 := by omega
theorem w_zero' : wH 0 = 0 ∧ wL 0 = 0 := by
  have h : inW 0 = true := by rw [inW_iff]; omega
  rw [wH_in h, wL_in h]; omega
theorem dE_zero {v n m : Int} (h : dE v n m = 0) : 1 ≤ n ∧ dQ v n m = quoI v n m := by
  unfold dE at h
  split at h
  · rename_i h1
    split at h
    · rename_i h2
      refine ⟨by rw [Bool.and_eq_true] at h1; simpa using h1.1, ?_⟩
      unfold dQ toInt; rw [if_pos h1, if_pos h2]
    · omega
  · omega
theorem amt_cases (v m : Int) :
    (dE v 1603080000000 m ≠ 0 → aQ v m = 0 ∧ aR v m = 0 ∧ aE v m = dE v 1603080000000 m) ∧
    (dE v 1603080000000 m = 0 → goodB (dQ v 1603080000000 m) = false → aQ v m = 0 ∧ aR v m = 0 ∧ aE v m = 6) ∧
    (dE v 1603080000000 m = 0 → goodB (dQ v 1603080000000 m) = true → aQ v m = dQ v 1603080000000 m ∧ aR v m = v - 1603080000000 * dQ v 1603080000000 m ∧ aE v m = 0 ∧ inW (v - 1603080000000 * dQ v 1603080000000 m) = true ∧ -1603080000000 < v - 1603080000000 * dQ v 1603080000000 m) := by
  refine ⟨fun h => ?_, fun h hg => ?_, fun h hg => ?_⟩
  · unfold aQ aR aE; rw [if_neg h, if_neg h, if_neg h]; exact ⟨rfl, rfl, rfl⟩
  · unfold aQ aR aE; rw [if_pos h, if_pos h, if_pos h, hg]; exact ⟨rfl, rfl, rfl⟩
  · obtain ⟨_, hq⟩ := dE_zero h
    have hn := quo_near (v := v) (n := 1603080000000) (m := m) (by omega)
    rw [← hq, Int.mul_comm] at hn
    unfold aQ aR aE
    rw [if_pos h, if_pos h, if_pos h, if_pos hg, if_pos hg, if_pos hg]
    refine ⟨rfl, rfl, rfl, ?_, by omega⟩
    rw [inW_iff]; omega
end Go.Proofs.YtjhfbnndapopgaaDoor
