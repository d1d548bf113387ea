/-
  How far a rounded quotient is from the exact one, plain.
-/
import Derived.Test.YtagckehcihhaiaaDoorRSMath
namespace Go.Proofs.YtagckehcihhaiaaDoor
open Go Go.RowKit WM

/-- Where the rounded quotient times the divisor lies, by the mode. -/
theorem near_facts (v n m : Int) (hn : 1 ≤ n) (h1 : 1 ≤ m) (h2 : m ≤ 6) :
    (m = 1 → 0 ≤ v → quoI v n m * n - v ≤ 0) ∧ (m = 1 → v < 0 → 0 ≤ quoI v n m * n - v) ∧
    (m = 2 → 0 ≤ v → 0 ≤ quoI v n m * n - v) ∧ (m = 2 → v < 0 → quoI v n m * n - v ≤ 0) ∧
    (m = 3 → quoI v n m * n - v ≤ 0) ∧ (m = 4 → 0 ≤ quoI v n m * n - v) ∧
    (m = 5 ∨ m = 6 → (-n < 2 * (quoI v n m * n - v) ∧ 2 * (quoI v n m * n - v) < n) ∨ 2 * (quoI v n m * n - v) = n ∨ 2 * (quoI v n m * n - v) = -n) ∧
    (m = 5 → 2 * (quoI v n m * n - v) = n → 0 ≤ v) ∧ (m = 5 → 2 * (quoI v n m * n - v) = -n → v < 0) ∧
    (m = 6 → 2 * (quoI v n m * n - v) = n ∨ 2 * (quoI v n m * n - v) = -n → quoI v n m % 2 = 0) := by
  have e := Int.mul_ediv_add_emod v n
  have r0 := Int.emod_nonneg v (show n ≠ 0 by omega)
  have r1 := Int.emod_lt_of_pos v (show 0 < n by omega)
  rw [Int.mul_comm] at e
  obtain ⟨u, hu⟩ : ∃ u, v / n = u := ⟨_, rfl⟩
  obtain ⟨r, hr⟩ : ∃ r, v % n = r := ⟨_, rfl⟩
  have hq : quoI v n m = if r = 0 then u else if upB (decide (v < 0)) (oddB u) r n m then u + 1 else u := by unfold quoI; rw [hu, hr]
  rw [hu, hr] at e
  rw [hr] at r0 r1
  rw [hq]
  clear hq hu hr
  by_cases hz : r = 0
  · rw [if_pos hz]
    subst hz
    generalize u * n = p at e
    refine ⟨?_, ?_, ?_, ?_, ?_, ?_, ?_, ?_, ?_, ?_⟩ <;> intros <;> omega
  · rw [if_neg hz]
    have hp : (u + 1) * n = u * n + n := by rw [Int.add_mul, Int.one_mul]
    have hm : m = 1 ∨ m = 2 ∨ m = 3 ∨ m = 4 ∨ m = 5 ∨ m = 6 := by omega
    have hneg : (decide (v < 0) = true ∧ v < 0) ∨ (decide (v < 0) = false ∧ 0 ≤ v) := by
      by_cases c : v < 0
      · exact Or.inl ⟨by simpa using c, c⟩
      · exact Or.inr ⟨by simpa using c, by omega⟩
    have hodd : (oddB u = true ∧ u % 2 = 1) ∨ (oddB u = false ∧ u % 2 = 0) := by
      by_cases c : u % 2 = 1
      · exact Or.inl ⟨by simp [oddB, c], c⟩
      · exact Or.inr ⟨by simp [oddB, c], by omega⟩
    generalize decide (v < 0) = neg at hneg
    generalize oddB u = odd at hodd
    obtain ⟨b, hb⟩ : ∃ b, upB neg odd r n m = b := ⟨_, rfl⟩
    have hbm : (m = 1 → b = neg) ∧ (m = 2 → b = !neg) ∧ (m = 3 → b = false) ∧ (m = 4 → b = true) ∧
        (m = 5 ∨ m = 6 → r < n - r → b = false) ∧ (m = 5 ∨ m = 6 → n - r < r → b = true) ∧ (m = 5 → r = n - r → b = !neg) ∧ (m = 6 → r = n - r → b = odd) := by
      rw [← hb]
      refine ⟨?_, ?_, ?_, ?_, ?_, ?_, ?_, ?_⟩
      · rintro rfl; rfl
      · rintro rfl; rfl
      · rintro rfl; rfl
      · rintro rfl; rfl
      · rintro (rfl | rfl) h <;> (have c : r ≠ n - r := by omega
                                  have d : ¬ n - r < r := by omega
                                  simp [upB, c, d])
      · rintro (rfl | rfl) h <;> (have c : r ≠ n - r := by omega
                                  simp [upB, c, h])
      · rintro rfl h; simp [upB, ← h]
      · rintro rfl h; simp [upB, ← h]
    rw [hb]
    clear hb
    obtain ⟨b1, b2, b3, b4, b5, b6, b7, b8⟩ := hbm
    have key : (if b = true then u + 1 else u) * n = if b = true then u * n + n else u * n := by split <;> simp [hp]
    have key2 : (if b = true then u + 1 else u) % 2 = if b = true then (u + 1) % 2 else u % 2 := by split <;> rfl
    rw [key, key2]
    generalize u * n = p at *
    clear key key2 hp hm
    have dn : (¬ m = 5 ∧ ¬ m = 6) ∨ r < n - r ∨ n - r < r ∨ r = n - r := by omega
    refine ⟨?_, ?_, ?_, ?_, ?_, ?_, ?_, ?_, ?_, ?_⟩
    · intro h hv; rw [b1 h]; rcases hneg with ⟨rfl, c⟩ | ⟨rfl, c⟩ <;> simp <;> omega
    · intro h hv; rw [b1 h]; rcases hneg with ⟨rfl, c⟩ | ⟨rfl, c⟩ <;> simp <;> omega
    · intro h hv; rw [b2 h]; rcases hneg with ⟨rfl, c⟩ | ⟨rfl, c⟩ <;> simp <;> omega
    · intro h hv; rw [b2 h]; rcases hneg with ⟨rfl, c⟩ | ⟨rfl, c⟩ <;> simp <;> omega
    · intro h; rw [b3 h]; simp; omega
    · intro h; rw [b4 h]; simp; omega
    · intro h
      rcases dn with c | c | c | c
      · omega
      · rw [b5 h c]; simp; omega
      · rw [b6 h c]; simp; omega
      · cases b <;> simp <;> omega
    · intro h ht
      rcases dn with c | c | c | c
      · omega
      · rw [b5 (Or.inl h) c] at ht; simp at ht; omega
      · rw [b6 (Or.inl h) c] at ht; simp at ht; omega
      · rw [b7 h c] at ht; rcases hneg with ⟨rfl, k⟩ | ⟨rfl, k⟩ <;> simp at ht <;> omega
    · intro h ht
      rcases dn with c | c | c | c
      · omega
      · rw [b5 (Or.inl h) c] at ht; simp at ht; omega
      · rw [b6 (Or.inl h) c] at ht; simp at ht; omega
      · rw [b7 h c] at ht; rcases hneg with ⟨rfl, k⟩ | ⟨rfl, k⟩ <;> simp at ht <;> omega
    · intro h ht
      rcases dn with c | c | c | c
      · omega
      · rw [b5 (Or.inr h) c] at ht; simp at ht; omega
      · rw [b6 (Or.inr h) c] at ht; simp at ht; omega
      · rw [b8 h c]; rcases hodd with ⟨rfl, k⟩ | ⟨rfl, k⟩ <;> simp <;> omega
/-- Where the rounded quotient is no int, the lesser integer is none either, or it is the greatest int. -/
theorem low_facts (v n m : Int) (h : isInt (quoI v n m) = false) : isInt (v / n) = false ∨ (isInt (v / n) = true ∧ toInt (v / n) = 9223372036854775807) := by
  cases c : isInt (v / n)
  · exact Or.inl rfl
  · refine Or.inr ⟨rfl, ?_⟩
    unfold toInt
    rw [if_pos c]
    unfold quoI at h
    simp only [isInt, decide_eq_false_iff_not, decide_eq_true_eq] at h c
    split at h
    · omega
    · split at h <;> omega
end Go.Proofs.YtagckehcihhaiaaDoor
