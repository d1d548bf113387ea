/-
  The rounds of the document's own multiplication and division, plain.
-/
import Derived.Test.YtfapcllhcbedlaaDoorRefMath
namespace Go.Proofs.YtfapcllhcbedlaaDoor.WM
open Go Go.RowKit

theorem fitsM_iff (v : Int) : fitsM v = true ↔ v < 340282366920938463463374607431768211456 := by simp only [fitsM, decide_eq_true_eq]
theorem modM_mag (v : Int) : val (mH (modM v)) (mL (modM v)) = modM v := val_mag _
theorem fits_mono' {a b : Int} (h : a ≤ b) (hf : fitsM b = true) : fitsM a = true := by
  simp only [fitsM, decide_eq_true_eq] at *; omega
theorem modM_add (a b : Int) : modM (modM a + b) = modM (a + b) := by unfold modM; omega
theorem modM_two (a : Int) : modM (modM a + modM a) = modM (2 * a) := by unfold modM; omega
/-- Doubling: is it still exact? -/
theorem fits_two {p : Int} (h0 : 0 ≤ p) : (fitsM p && fitsM (modM p + modM p)) = fitsM (2 * p) := by
  rw [Bool.eq_iff_iff, Bool.and_eq_true, fitsM_iff, fitsM_iff, fitsM_iff]
  unfold modM
  omega
theorem fits_more {p m : Int} (h0 : 0 ≤ p) (h1 : 0 ≤ m) : (fitsM p && fitsM (modM p + m)) = fitsM (p + m) := by
  rw [Bool.eq_iff_iff, Bool.and_eq_true, fitsM_iff, fitsM_iff, fitsM_iff]
  unfold modM
  omega
/-- A bit of the factor: n, doubled modulo 2^64. -/
theorem shl_one {n : Int} (hn : U64 n) : (n * 2) % 18446744073709551616 = if 9223372036854775808 ≤ n then 2 * n - 18446744073709551616 else 2 * n := by
  unfold U64 at hn; split <;> omega
theorem times_bit {m q n t : Int} (h : q * 18446744073709551616 + n = t) :
    (2 * q + 1) * 18446744073709551616 + (2 * n - 18446744073709551616) = 2 * t ∧ m * (2 * q + 1) = 2 * (m * q) + m := by
  refine ⟨by omega, ?_⟩
  rw [Int.mul_add, Int.mul_one, Int.mul_left_comm]
theorem times_nobit {m q n t : Int} (h : q * 18446744073709551616 + n = t) :
    (2 * q) * 18446744073709551616 + (2 * n) = 2 * t ∧ m * (2 * q) = 2 * (m * q) := by
  refine ⟨by omega, ?_⟩
  rw [Int.mul_left_comm]
theorem pow_step (n : Int) (k : Nat) : n * 2 ^ (k + 1) = 2 * (n * 2 ^ k) := by
  rw [Int.pow_succ, ← Int.mul_assoc]; omega
theorem times_end {q n N : Int} (h : q * 18446744073709551616 + n = N * 2 ^ 64) (hn : U64 n) : q = N := by
  have e : (2 : Int) ^ 64 = 18446744073709551616 := by decide
  rw [e] at h
  unfold U64 at hn
  omega
/-- Division, bit by bit: P is what has been read of the number M, m what is left of it, q and r its quotient and remainder. -/
structure DivAt (M n : Int) (k : Nat) (m q r : Int) : Prop where
  read : ∃ P : Int, M * 2 ^ k = P * 340282366920938463463374607431768211456 + m ∧ q * n + r = P ∧ P < 2 ^ k ∧ 0 ≤ P
  m0 : 0 ≤ m ∧ m < 340282366920938463463374607431768211456
  r0 : 0 ≤ r ∧ r < n
  q0 : 0 ≤ q
theorem div_at_start {M n : Int} (hM : 0 ≤ M ∧ M < 340282366920938463463374607431768211456) (hn : 1 ≤ n) : DivAt M n 0 M 0 0 :=
  ⟨⟨0, by simp, by simp, by simp, by omega⟩, hM, by omega, by omega⟩
theorem div_at_q {M n : Int} {k : Nat} {m q r : Int} (h : DivAt M n k m q r) (hn : 1 ≤ n) (hk : k < 128) : q < 170141183460469231731687303715884105728 := by
  obtain ⟨P, _, hq, hP, hP0⟩ := h.read
  have h1 : q * 1 ≤ q * n := Int.mul_le_mul_of_nonneg_left hn h.q0
  have h2 : (2 : Int) ^ k ≤ 2 ^ 127 := by
    have : (2 : Nat) ^ k ≤ 2 ^ 127 := Nat.pow_le_pow_right (by decide) (by omega)
    exact_mod_cast this
  have e : (2 : Int) ^ 127 = 170141183460469231731687303715884105728 := by decide
  have := h.r0
  omega
theorem div_at_end {M n m q r : Int} (h : DivAt M n 128 m q r) : q = M / n ∧ r = M % n := by
  obtain ⟨P, h1, h2, _, _⟩ := h.read
  have e : (2 : Int) ^ 128 = 340282366920938463463374607431768211456 := by decide
  rw [e] at h1
  have hm := h.m0
  have hP : P = M := by omega
  rw [hP] at h2
  have hr := h.r0
  have := (Int.ediv_emod_unique (a := M) (b := n) (r := r) (q := q) (by omega)).2 ⟨by rw [Int.mul_comm]; omega, by omega, by omega⟩
  exact ⟨this.1.symm, this.2.symm⟩
/-- One round. b: the highest bit of m; the quotient gets a bit if the divisor fits. -/
theorem div_at_step {M n : Int} {k : Nat} {m q r : Int} (h : DivAt M n k m q r) (b : Int) (hb : b = if 170141183460469231731687303715884105728 ≤ m then 1 else 0) :
    (2 * r + b < n → DivAt M n (k + 1) (modM (2 * m)) (2 * q) (2 * r + b)) ∧ (n ≤ 2 * r + b → DivAt M n (k + 1) (modM (2 * m)) (2 * q + 1) (2 * r + b - n)) := by
  obtain ⟨P, h1, h2, h3, h4⟩ := h.read
  have hm := h.m0
  have hr := h.r0
  have hq := h.q0
  have hb01 : b = 0 ∨ b = 1 := by rw [hb]; split <;> simp
  have e1 : M * 2 ^ (k + 1) = (2 * P + b) * 340282366920938463463374607431768211456 + modM (2 * m) := by
    rw [pow_step, h1]
    unfold modM
    rw [hb]; split <;> omega
  have e2 : (2 : Int) ^ (k + 1) = 2 * 2 ^ k := by rw [Int.pow_succ]; omega
  have e3 : (2 * q) * n = 2 * (q * n) := by rw [Int.mul_assoc]
  have e4 : (2 * q + 1) * n = 2 * (q * n) + n := by rw [Int.add_mul, Int.one_mul, Int.mul_assoc]
  refine ⟨fun hlt => ⟨⟨2 * P + b, e1, ?_, ?_, ?_⟩, modM_bd _, by omega, by omega⟩, fun hge => ⟨⟨2 * P + b, e1, ?_, ?_, ?_⟩, modM_bd _, by omega, by omega⟩⟩
  · rw [e3]; omega
  · rw [e2]; omega
  · omega
  · rw [e4]; omega
  · rw [e2]; omega
  · omega
end Go.Proofs.YtfapcllhcbedlaaDoor.WM
