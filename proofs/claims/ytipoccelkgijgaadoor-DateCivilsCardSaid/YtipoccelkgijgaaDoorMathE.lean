/-
  Decimal numerals in blocks of digits.
-/
import Derived.Test.YtipoccelkgijgaaDoorMathD
import Derived.Lib.ItoaNum
import Derived.Lib.Repeat
namespace Go.Proofs.YtipoccelkgijgaaDoor.WM
open Go Go.RowKit Go.Lib

/-- The last k digits of r. -/
def pad : Nat → Nat → List UInt8
  | 0, _ => []
  | k + 1, r => pad k (r / 10) ++ [UInt8.ofNat (48 + r % 10)]
theorem pad_zero : ∀ k, pad k 0 = List.replicate k 48
  | 0 => rfl
  | k + 1 => by
    rw [pad, Nat.zero_div, pad_zero k, List.replicate_succ']
    rfl
theorem pad_digits : ∀ (k r : Nat), r < 10 ^ (k + 1) → pad (k + 1) r = List.replicate (k + 1 - nDigits r) 48 ++ decDigits r
  | 0, r, h => by
    have h1 : r < 10 := by simpa using h
    rw [nDigits_small h1, decDigits_one h1, pad, pad, Nat.mod_eq_of_lt h1]; rfl
  | k + 1, r, h => by
    rw [pad]
    by_cases h1 : r < 10
    · rw [nDigits_small h1, decDigits_one h1, Nat.mod_eq_of_lt h1, Nat.div_eq_of_lt h1, pad_zero]
      rfl
    · rw [pad_digits k (r / 10) (by rw [Nat.pow_succ] at h; omega), nDigits_big h1]
      conv => rhs; rw [decDigits, dif_neg h1]
      rw [List.append_assoc, show k + 1 - nDigits (r / 10) = k + 1 + 1 - (nDigits (r / 10) + 1) by omega]
theorem digits_block : ∀ (k q r : Nat), 0 < q → r < 10 ^ k → decDigits (q * 10 ^ k + r) = decDigits q ++ pad k r
  | 0, q, r, _, h => by
    have h0 : r = 0 := by simpa using h
    subst h0
    simp [pad]
  | k + 1, q, r, hq, h => by
    have hp : 0 < 10 ^ k := Nat.pow_pos (by decide)
    have e : q * 10 ^ (k + 1) = q * 10 ^ k * 10 := by rw [Nat.pow_succ, Nat.mul_assoc]
    have hb : 1 ≤ q * 10 ^ k := Nat.mul_pos hq hp
    rw [pad, e, decDigits, dif_neg (by omega), show (q * 10 ^ k * 10 + r) / 10 = q * 10 ^ k + r / 10 by omega, show (q * 10 ^ k * 10 + r) % 10 = r % 10 by omega,
      digits_block k q (r / 10) hq (by rw [Nat.pow_succ] at h; omega), List.append_assoc]
theorem digits_19 (v : Nat) (h : 10000000000000000000 ≤ v) : decDigits v = decDigits (v / 10000000000000000000) ++ List.replicate (19 - nDigits (v % 10000000000000000000)) 48 ++ decDigits (v % 10000000000000000000) := by
  have e10 : (10 : Nat) ^ 19 = 10000000000000000000 := by decide
  have hr : v % 10000000000000000000 < 10 ^ 19 := by rw [e10]; omega
  have := digits_block 19 (v / 10000000000000000000) (v % 10000000000000000000) (by omega) hr
  rw [pad_digits 18 _ hr, e10] at this
  rw [List.append_assoc, ← this]
  congr 1
  omega
theorem nDigits_le : ∀ (k u : Nat), u < 10 ^ (k + 1) → nDigits u ≤ k + 1
  | 0, u, h => by
    have h1 : u < 10 := by simpa using h
    rw [nDigits_small h1]; omega
  | k + 1, u, h => by
    by_cases h1 : u < 10
    · rw [nDigits_small h1]; omega
    · rw [nDigits_big h1]
      have := nDigits_le k (u / 10) (by rw [Nat.pow_succ] at h; omega)
      omega
theorem nDigits_le19 (r : Nat) (h : r < 10000000000000000000) : 1 ≤ nDigits r ∧ nDigits r ≤ 19 :=
  ⟨nDigits_pos r, nDigits_le 18 r (by have e10 : (10 : Nat) ^ (18 + 1) = 10000000000000000000 := by decide
                                      omega)⟩
theorem nDigits_le39 (q : Nat) (h : q < 340282366920938463463374607431768211456) : nDigits q ≤ 39 :=
  nDigits_le 38 q (by have e10 : (10 : Nat) ^ (38 + 1) = 1000000000000000000000000000000000000000 := by decide
                      omega)
theorem repeat_one (n : Nat) : repeatL [48] n = List.replicate n 48 := by
  induction n with
  | zero => rfl
  | succ n ih => rw [repeatL, ih, List.replicate_succ]; rfl
end Go.Proofs.YtipoccelkgijgaaDoor.WM
