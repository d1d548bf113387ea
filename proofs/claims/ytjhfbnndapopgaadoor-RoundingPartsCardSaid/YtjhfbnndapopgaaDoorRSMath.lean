/-
  What Step returns, plain; a rounded quotient times the divisor is near the dividend.
-/
import Derived.Test.YtjhfbnndapopgaaDoorRDef
namespace Go.Proofs.YtjhfbnndapopgaaDoor
open Go Go.RowKit WM

theorem quo_near {v n m : Int} (hn : 1 ≤ n) : -n < quoI v n m * n - v ∧ quoI v n m * n - v < n := by
  have e := Int.mul_ediv_add_emod v n
  have r0 := Int.emod_nonneg v (show n ≠ 0 by omega)
  have r1 := Int.emod_lt_of_pos v (show 0 < n by omega)
  rw [Int.mul_comm] at e
  unfold quoI
  generalize v / n = q at *
  generalize v % n = r at *
  split
  · omega
  · split
    · rw [Int.add_mul, Int.one_mul]; omega
    · omega
theorem abs_le_mul {q n : Int} (hn : 1 ≤ n) (b : Int) (h1 : -b ≤ q * n) (h2 : q * n ≤ b) : -b ≤ q ∧ q ≤ b := by
  rcases Int.lt_or_le q 0 with c | c
  · have h3 : q * n ≤ q * 1 := Int.mul_le_mul_of_nonpos_left (by omega) hn
    omega
  · have h3 : q * 1 ≤ q * n := Int.mul_le_mul_of_nonneg_left hn c
    omega
def stepOk (a s m : Int) : Bool := goodB a && decide (1 ≤ s ∧ s ≤ 1000000000000) && validB m
def sQ (a s m : Int) : Int := if stepOk a s m then (if goodB (quoI a s m * s) then quoI a s m * s else 0) else 0
def sE (a s m : Int) : Int := if stepOk a s m then (if goodB (quoI a s m * s) then 0 else 6) else 1
theorem step_bd {a s m : Int} (h : stepOk a s m = true) : -2000000000000 ≤ quoI a s m * s ∧ quoI a s m * s ≤ 2000000000000 ∧ -2000000000000 ≤ quoI a s m ∧ quoI a s m ≤ 2000000000000 ∧ dQ a s m = quoI a s m ∧ dE a s m = 0 := by
  unfold stepOk at h
  rw [Bool.and_eq_true, Bool.and_eq_true] at h
  obtain ⟨⟨h1, h2⟩, h3⟩ := h
  have h1' : -1000000000000 ≤ a ∧ a ≤ 1000000000000 := by simpa [goodB] using h1
  have h2' : 1 ≤ s ∧ s ≤ 1000000000000 := by simpa using h2
  have hn := quo_near (v := a) (m := m) h2'.1
  have hb1 : -2000000000000 ≤ quoI a s m * s := by omega
  have hb2 : quoI a s m * s ≤ 2000000000000 := by omega
  obtain ⟨c1, c2⟩ := abs_le_mul h2'.1 2000000000000 hb1 hb2
  have hi : isInt (quoI a s m) = true := by simp only [isInt, decide_eq_true_eq]; omega
  have hv : (decide (1 ≤ s) && validB m) = true := by rw [h3, Bool.and_true]; simpa using h2'.1
  refine ⟨hb1, hb2, c1, c2, ?_, ?_⟩
  · unfold dQ; rw [if_pos hv]; unfold toInt; rw [if_pos hi]
  · unfold dE; rw [if_pos hv, if_pos hi]
end Go.Proofs.YtjhfbnndapopgaaDoor
