/-
  The plain arithmetic of a division of two words by one (Knuth's algorithm D on halves).
-/
import Derived.Test.YtfapcllhcbedlaaDoorMath
import Derived.Lib.ItoaNum
namespace Go.Proofs.YtfapcllhcbedlaaDoor.WM
open Go Go.RowKit

theorem bitLen_bounds (y : Int) (h0 : 0 < y) (h1 : y ≤ 18446744073709551615) : 1 ≤ Lib.bitLen y.toNat ∧ Lib.bitLen y.toNat ≤ 64 ∧ 9223372036854775808 ≤ y * 2 ^ (64 - Lib.bitLen y.toNat) ∧ y * 2 ^ (64 - Lib.bitLen y.toNat) < 18446744073709551616 := by
  obtain ⟨n, rfl⟩ := Int.eq_ofNat_of_zero_le (Int.le_of_lt h0)
  have hb := Lib.bitLenAux_bounds 64 n (by omega) (by omega)
  have e : Lib.bitLen n = Lib.bitLenAux 64 n := rfl
  rw [Int.toNat_natCast, e]
  obtain ⟨b1, b2, b3⟩ := hb
  generalize hB : Lib.bitLenAux 64 n = B at *
  have b4 : B ≤ 64 := by
    rcases Nat.lt_or_ge 64 B with h | h
    · have : 2 ^ 64 ≤ 2 ^ (B - 1) := Nat.pow_le_pow_right (by decide) (by omega)
      have e64 : (2 : Nat) ^ 64 = 18446744073709551616 := by decide
      omega
    · exact h
  have k1 : 2 ^ (B - 1) * 2 ^ (64 - B) = 2 ^ 63 := by rw [← Nat.pow_add]; congr 1; omega
  have k2 : 2 ^ B * 2 ^ (64 - B) = 2 ^ 64 := by rw [← Nat.pow_add]; congr 1; omega
  have hp : 0 < 2 ^ (64 - B) := Nat.pow_pos (by decide)
  have c1 : 2 ^ (B - 1) * 2 ^ (64 - B) ≤ n * 2 ^ (64 - B) := Nat.mul_le_mul_right _ b2
  have c2 : n * 2 ^ (64 - B) < 2 ^ B * 2 ^ (64 - B) := Nat.mul_lt_mul_of_pos_right b3 hp
  rw [k1] at c1
  rw [k2] at c2
  have ec : ((n : Int) * 2 ^ (64 - B)) = ((n * 2 ^ (64 - B) : Nat) : Int) := by rw [Int.natCast_mul, Int.natCast_pow]; rfl
  have e63 : (2 : Nat) ^ 63 = 9223372036854775808 := by decide
  have e64 : (2 : Nat) ^ 64 = 18446744073709551616 := by decide
  rw [ec]
  rw [e63] at c1
  rw [e64] at c2
  refine ⟨b1, b4, by omega, by omega⟩

theorem pq (s : Nat) (hs : s ≤ 63) : (2 : Int) ^ s * 2 ^ (64 - s) = 18446744073709551616 ∧ (0 : Int) < 2 ^ s ∧ (0 : Int) < 2 ^ (64 - s) := by
  refine ⟨?_, Int.pow_pos (by decide), Int.pow_pos (by decide)⟩
  rw [← Int.pow_add, show s + (64 - s) = 64 by omega]
  decide
/-- The dividend, shifted. -/
theorem shifted {hi lo P Q : Int} (hP : 0 < P) (hQ : 0 < Q) (hPQ : P * Q = 18446744073709551616) (h3 : U64 lo) :
    lo / Q < P ∧ 0 ≤ lo / Q ∧ lo * P % 18446744073709551616 = lo % Q * P ∧ val hi lo * P = (hi * P + lo / Q) * 18446744073709551616 + lo * P % 18446744073709551616 := by
  unfold U64 at h3
  have e0 : lo = lo / Q * Q + lo % Q := by rw [Int.mul_comm]; exact (Int.mul_ediv_add_emod lo Q).symm
  have m0 := Int.emod_nonneg lo (Int.ne_of_gt hQ)
  have m1 := Int.emod_lt_of_pos lo hQ
  have e1 : lo * P = lo / Q * 18446744073709551616 + lo % Q * P := by
    have : lo * P = (lo / Q * Q + lo % Q) * P := by rw [← e0]
    rw [this, Int.add_mul, Int.mul_assoc, Int.mul_comm Q P, hPQ]
  have n0 : 0 ≤ lo % Q * P := Int.mul_nonneg m0 (Int.le_of_lt hP)
  have n1 : lo % Q * P < 18446744073709551616 := by
    have := Int.mul_lt_mul_of_pos_right m1 hP
    rw [Int.mul_comm Q P, hPQ] at this
    exact this
  have e2 : lo * P % 18446744073709551616 = lo % Q * P := by rw [e1]; omega
  refine ⟨?_, Int.ediv_nonneg h3.1 (Int.le_of_lt hQ), e2, ?_⟩
  · apply Int.ediv_lt_of_lt_mul hQ
    rw [hPQ]; omega
  · rw [e2]
    unfold val
    have : (hi * 18446744073709551616 + lo) * P = hi * P * 18446744073709551616 + lo * P := by rw [Int.add_mul, Int.mul_right_comm]
    rw [this, e1]
    omega
theorem or_add (a b s : Nat) (hb : b < 2 ^ s) : (a * 2 ^ s ||| b) = a * 2 ^ s + b := by
  have := Nat.two_pow_add_eq_or_of_lt hb a
  rw [Nat.mul_comm] at this
  exact this.symm
theorem bits_or_add (hi l : Int) (s : Nat) (h0 : 0 ≤ hi) (h1 : hi * 2 ^ s < 18446744073709551616) (h2 : 0 ≤ l) (h3 : l < 2 ^ s) (hs : s ≤ 63) : bits .or .u64 (hi * 2 ^ s) l = hi * 2 ^ s + l := by
  obtain ⟨a, rfl⟩ := Int.eq_ofNat_of_zero_le h0
  obtain ⟨b, rfl⟩ := Int.eq_ofNat_of_zero_le h2
  have ec : ((a : Int) * 2 ^ s) = ((a * 2 ^ s : Nat) : Int) := by rw [Int.natCast_mul, Int.natCast_pow]; rfl
  have ec2 : ((2 : Int) ^ s) = ((2 ^ s : Nat) : Int) := by rw [Int.natCast_pow]; rfl
  have hb : b < 2 ^ s := by rw [ec2] at h3; omega
  have hp : 2 ^ s ≤ 2 ^ 63 := Nat.pow_le_pow_right (by decide) hs
  have e63 : (2 : Nat) ^ 63 = 9223372036854775808 := by decide
  rw [ec] at h1 ⊢
  rw [bits_or_u64_nat _ _ (by omega) (by omega), or_add a b s hb]
  omega

/-- The invariant of the search for one half of the quotient. -/
def KInv (u d n1 n0 q r : Int) : Prop :=
  0 ≤ q ∧ 0 ≤ r ∧ q * n1 + r = u ∧ u * 4294967296 + d < q * n1 * 4294967296 + q * n0 + (n1 * 4294967296 + n0) ∧ q ≤ 4294967297
/-- The half itself. -/
def Half (u d n1 n0 q : Int) : Prop := 0 ≤ q ∧ q * n1 * 4294967296 + q * n0 ≤ u * 4294967296 + d ∧ u * 4294967296 + d < q * n1 * 4294967296 + q * n0 + (n1 * 4294967296 + n0)
def Norm (n1 n0 : Int) : Prop := 2147483648 ≤ n1 ∧ n1 < 4294967296 ∧ 0 ≤ n0 ∧ n0 < 4294967296

theorem inv_start {u d n1 n0 : Int} (hn : Norm n1 n0) (hu0 : 0 ≤ u) (hu : u < n1 * 4294967296 + n0) (hd0 : 0 ≤ d) (hd : d < 4294967296) : KInv u d n1 n0 (u / n1) (u - u / n1 * n1) ∧ u - u / n1 * n1 < 4294967296 := by
  unfold Norm at hn
  have hp : 0 < n1 := by omega
  have q0 : 0 ≤ u / n1 := Int.ediv_nonneg hu0 (by omega)
  have e := Int.mul_ediv_add_emod u n1
  have m0 := Int.emod_nonneg u (Int.ne_of_gt hp)
  have m1 := Int.emod_lt_of_pos u hp
  rw [Int.mul_comm] at e
  have hq : u / n1 < 4294967298 := by
    apply Int.ediv_lt_of_lt_mul hp
    omega
  have hn0 : 0 ≤ u / n1 * n0 := Int.mul_nonneg q0 hn.2.2.1
  unfold KInv
  generalize u / n1 * n1 = p1 at *
  generalize u / n1 * n0 = p0 at *
  refine ⟨⟨q0, by omega, by omega, by omega, by omega⟩, by omega⟩

theorem inv_step {u d n1 n0 q r : Int} (hn : Norm n1 n0) (hu : u < n1 * 4294967296 + n0) (hd0 : 0 ≤ d) (hd : d < 4294967296) (h : KInv u d n1 n0 q r) (ht : 4294967296 ≤ q ∨ 4294967296 * r + d < q * n0) : 1 ≤ q ∧ KInv u d n1 n0 (q - 1) (r + n1) ∧ (4294967296 ≤ r + n1 → Half u d n1 n0 (q - 1)) := by
  unfold KInv Norm Half at *
  obtain ⟨q0, r0, e, i2, q1⟩ := h
  have hq : 1 ≤ q := by
    rcases ht with ht | ht
    · omega
    · rcases Int.lt_or_eq_of_le q0 with c | c
      · omega
      · subst c
        simp only [Int.zero_mul] at ht
        omega
  have f1 : (q - 1) * n1 = q * n1 - n1 := by rw [Int.sub_mul, Int.one_mul]
  have f0 : (q - 1) * n0 = q * n0 - n0 := by rw [Int.sub_mul, Int.one_mul]
  have g0 : (q - 1) * n0 ≤ 4294967296 * n0 := Int.mul_le_mul_of_nonneg_right (by omega) hn.2.2.1
  have g1 : 4294967296 ≤ q → 4294967296 * n1 ≤ q * n1 := fun h => Int.mul_le_mul_of_nonneg_right h (by omega)
  have g2 : 4294967296 ≤ q → 4294967296 * n0 ≤ q * n0 := fun h => Int.mul_le_mul_of_nonneg_right h (by omega)
  rw [f1, f0]
  rw [f0] at g0
  generalize q * n1 = p1 at *
  generalize q * n0 = p0 at *
  have key : u * 4294967296 + d < p1 * 4294967296 + p0 := by
    rcases ht with ht | ht
    · have := g1 ht
      have := g2 ht
      omega
    · omega
  refine ⟨hq, ⟨by omega, by omega, by omega, by omega, by omega⟩, fun h => ⟨by omega, by omega, by omega⟩⟩
theorem inv_done {u d n1 n0 q r : Int} (h : KInv u d n1 n0 q r) (ht : ¬ 4294967296 * r + d < q * n0) : Half u d n1 n0 q := by
  unfold KInv Half at *
  obtain ⟨q0, r0, e, i2, q1⟩ := h
  generalize q * n1 = p1 at *
  generalize q * n0 = p0 at *
  exact ⟨q0, by omega, by omega⟩
theorem half_lt {u d n1 n0 q : Int} (hn : Norm n1 n0) (hu : u < n1 * 4294967296 + n0) (hd : d < 4294967296) (h : Half u d n1 n0 q) : q < 4294967296 := by
  unfold Half Norm at *
  rcases Int.lt_or_le q 4294967296 with c | c
  · exact c
  · have g1 : 4294967296 * n1 ≤ q * n1 := Int.mul_le_mul_of_nonneg_right c (by omega)
    have g2 : 4294967296 * n0 ≤ q * n0 := Int.mul_le_mul_of_nonneg_right c (by omega)
    generalize q * n1 = p1 at *
    generalize q * n0 = p0 at *
    omega
/-- What is left after one half. -/
theorem half_rest {u d n1 n0 q : Int} (hn : Norm n1 n0) (h : Half u d n1 n0 q) : 0 ≤ u * 4294967296 + d - q * (n1 * 4294967296 + n0) ∧ u * 4294967296 + d - q * (n1 * 4294967296 + n0) < n1 * 4294967296 + n0 ∧
    (u * 4294967296 % 18446744073709551616 + d - q * (n1 * 4294967296 + n0) % 18446744073709551616) % 18446744073709551616 = u * 4294967296 + d - q * (n1 * 4294967296 + n0) := by
  unfold Half Norm at *
  have e : q * (n1 * 4294967296 + n0) = q * n1 * 4294967296 + q * n0 := by rw [Int.mul_add, Int.mul_assoc]
  rw [e]
  generalize q * n1 = p1 at *
  generalize q * n0 = p0 at *
  refine ⟨by omega, by omega, by omega⟩
/-- The whole quotient and the remainder. -/
theorem div_fin {N y P Y u10 a q1 q0 d1 d0 u32 u21 : Int} (hP : 0 < P) (hY : Y = y * P) (hy : 0 < y) (hN : N * P = u32 * 18446744073709551616 + u10) (hu10 : u10 = d1 * 4294967296 + d0)
    (h21 : u21 = u32 * 4294967296 + d1 - q1 * Y) (ha : a = u21 * 4294967296 + d0 - q0 * Y) (a0 : 0 ≤ a) (a1 : a < Y) : q1 * 4294967296 + q0 = N / y ∧ a / P = N % y := by
  have e1 : N * P = (q1 * 4294967296 + q0) * Y + a := by
    rw [hN, hu10, ha, h21, Int.add_mul, Int.mul_assoc q1, Int.mul_comm 4294967296 Y, ← Int.mul_assoc]
    generalize q1 * Y = x
    generalize q0 * Y = z
    omega
  have e2 : N * P = (q1 * 4294967296 + q0) * y * P + a := by rw [e1, hY, Int.mul_assoc]
  generalize q1 * 4294967296 + q0 = q at *
  have e3 : a = (N - q * y) * P := by rw [Int.sub_mul, e2]; omega
  have e4 : a / P = N - q * y := by rw [e3]; exact Int.mul_ediv_cancel _ (Int.ne_of_gt hP)
  have e5 : 0 ≤ N - q * y := by
    rw [← e4]; exact Int.ediv_nonneg a0 (Int.le_of_lt hP)
  have e6 : N - q * y < y := by
    rw [hY] at a1
    rw [e3] at a1
    exact Int.lt_of_mul_lt_mul_right a1 (Int.le_of_lt hP)
  have := (Int.ediv_emod_unique (a := N) (b := y) (r := N - q * y) (q := q) hy).2 ⟨by rw [Int.mul_comm y q]; omega, e5, e6⟩
  exact ⟨this.1.symm, by rw [e4]; exact this.2.symm⟩
end Go.Proofs.YtfapcllhcbedlaaDoor.WM
