/-
  The walk of the law RoundingMirrors.
-/
import Derived.Test.YtagckehcihhaiaaDoorRPercents
import Derived.Test.YtagckehcihhaiaaDoorRefD
import Derived.Deep.RegionWith
import Derived.Deep.DeepCutAuto
namespace Go.Proofs.YtagckehcihhaiaaDoor
open Go Go.RowKit WM

/-- The mode of the negated number. -/
def otherM (m : Int) : Int := if m = 3 then 4 else if m = 4 then 3 else m
theorem upB_mirror (neg odd : Bool) (r n m : Int) (h1 : 1 ≤ m) (h2 : m ≤ 6) : upB (!neg) (!odd) (n - r) n (otherM m) = !(upB neg odd r n m) := by
  have hm : m = 1 ∨ m = 2 ∨ m = 3 ∨ m = 4 ∨ m = 5 ∨ m = 6 := by omega
  have hr : n - (n - r) = r := by omega
  rcases hm with rfl | rfl | rfl | rfl | rfl | rfl
  · simp [upB, otherM]
  · simp [upB, otherM]
  · simp [upB, otherM]
  · simp [upB, otherM]
  · simp only [upB, otherM, hr]
    by_cases c : r = n - r
    · simp [← c]
    · have c' : n - r ≠ r := fun e => c e.symm
      simp [c, c']
      by_cases d : n - r < r
      · have : ¬ r < n - r := by omega
        simp [d, this]
      · have : r < n - r := by omega
        simp [d, this]
  · simp only [upB, otherM, hr]
    by_cases c : r = n - r
    · simp [← c]
    · have c' : n - r ≠ r := fun e => c e.symm
      simp [c, c']
      by_cases d : n - r < r
      · have : ¬ r < n - r := by omega
        simp [d, this]
      · have : r < n - r := by omega
        simp [d, this]
theorem quo_mirror (v n m : Int) (hn : 1 ≤ n) (h1 : 1 ≤ m) (h2 : m ≤ 6) : quoI (0 - v) n (otherM m) = -(quoI v n m) := by
  have e := Int.mul_ediv_add_emod v n
  have r0 := Int.emod_nonneg v (show n ≠ 0 by omega)
  have r1 := Int.emod_lt_of_pos v (show 0 < n by omega)
  obtain ⟨q, hq⟩ : ∃ q, v / n = q := ⟨_, rfl⟩
  obtain ⟨r, hr⟩ : ∃ r, v % n = r := ⟨_, rfl⟩
  rw [hq, hr] at e
  rw [hr] at r0 r1
  by_cases hz : r = 0
  · have hv : 0 - v = n * (-q) := by rw [Int.mul_neg]; omega
    have a1 : (0 - v) % n = 0 := by rw [hv]; exact Int.mul_emod_right _ _
    have a2 : (0 - v) / n = -q := by rw [hv]; exact Int.mul_ediv_cancel_left _ (by omega)
    unfold quoI
    rw [a1, a2, hr, hz, hq, if_pos rfl, if_pos rfl]
  · have hv : 0 - v = (n - r) + n * (-q - 1) := by rw [Int.mul_sub, Int.mul_neg, Int.mul_one]; omega
    have a1 : (0 - v) % n = n - r := by rw [hv, Int.add_mul_emod_self_left]; exact Int.emod_eq_of_lt (by omega) (by omega)
    have a2 : (0 - v) / n = -q - 1 := by
      rw [hv, Int.add_mul_ediv_left _ _ (by omega), Int.ediv_eq_zero_of_lt (by omega) (by omega)]; omega
    have hne : v ≠ 0 := by
      intro h; rw [h] at hr; simp at hr; exact hz hr.symm
    have a3 : decide (0 - v < 0) = !(decide (v < 0)) := by
      by_cases c : v < 0
      · have : ¬ 0 - v < 0 := by omega
        simp [c]; omega
      · have : 0 - v < 0 := by omega
        simp [c]; omega
    have a4 : oddB (-q - 1) = !(oddB q) := by
      unfold oddB
      by_cases c : q % 2 = 1
      · have : ¬ (-q - 1) % 2 = 1 := by omega
        simp [c, this]
      · have : (-q - 1) % 2 = 1 := by omega
        simp [c, this]
    have hz2 : ¬ n - r = 0 := by omega
    unfold quoI
    rw [a1, a2, hr, hq, if_neg hz, if_neg hz2, a3, a4, upB_mirror _ _ _ _ _ h1 h2]
    cases upB (decide (v < 0)) (oddB q) r n m
    · simp; try omega
    · simp; try omega
theorem otherM_valid (m : Int) (h : validB m = true) : validB (otherM m) = true := by
  have hm : 1 ≤ m ∧ m ≤ 6 := by simpa [validB] using h
  unfold otherM validB
  split
  · decide
  · split
    · decide
    · simpa using hm
/-- What the two quotients and errors are. -/
theorem mirror_ways (v n m : Int) (hn : 1 ≤ n) (hv : validB m = true) :
    (dE v n m = 0 ∧ dE (0 - v) n (otherM m) = 0 ∧ wrap64 (-(dQ (0 - v) n (otherM m))) = dQ v n m) ∨ (dE v n m = 0 ∧ dE (0 - v) n (otherM m) = 6 ∧ dQ v n m = -9223372036854775808) ∨
    (dE v n m = 6 ∧ dE (0 - v) n (otherM m) = 0 ∧ dQ (0 - v) n (otherM m) = -9223372036854775808) ∨ (dE v n m = 6 ∧ dE (0 - v) n (otherM m) = 6) := by
  have hm : 1 ≤ m ∧ m ≤ 6 := by simpa [validB] using hv
  have hq := quo_mirror v n m hn hm.1 hm.2
  have h1 : (decide (1 ≤ n) && validB m) = true := by rw [hv]; simp [hn]
  have h2 : (decide (1 ≤ n) && validB (otherM m)) = true := by rw [otherM_valid m hv]; simp [hn]
  unfold dE dQ
  rw [if_pos h1, if_pos h2, if_pos h1, if_pos h2, hq]
  obtain ⟨q, hqq⟩ : ∃ q, quoI v n m = q := ⟨_, rfl⟩
  rw [hqq]
  by_cases c1 : isInt q = true <;> by_cases c2 : isInt (-q) = true
  · refine Or.inl ⟨by rw [if_pos c1], by rw [if_pos c2], ?_⟩
    unfold toInt
    rw [if_pos c1, if_pos c2]
    unfold isInt at c1
    simp only [decide_eq_true_eq] at c1
    unfold wrap64; omega
  · refine Or.inr (Or.inl ⟨by rw [if_pos c1], by rw [if_neg c2], ?_⟩)
    unfold toInt
    rw [if_pos c1]
    unfold isInt at c1 c2
    simp only [decide_eq_true_eq] at c1 c2
    omega
  · refine Or.inr (Or.inr (Or.inl ⟨by rw [if_neg c1], by rw [if_pos c2], ?_⟩))
    unfold toInt
    rw [if_pos c2]
    unfold isInt at c1 c2
    simp only [decide_eq_true_eq] at c1 c2
    omega
  · exact Or.inr (Or.inr (Or.inr ⟨by rw [if_neg c1], by rw [if_neg c2]⟩))
end Go.Proofs.YtagckehcihhaiaaDoor
