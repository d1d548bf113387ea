/-
  More plain arithmetic of wide numbers: products of signed numbers.
-/
import Derived.Test.YtipoccelkgijgaaDoorMath
namespace Go.Proofs.YtipoccelkgijgaaDoor.WM
open Go Go.RowKit

theorem abs_n {n : Int} (hn : I64 n) : mL (absW (val (wH n) (wL n))) = absW n ∧ U64 (absW n) := by
  rw [val_w (inW_I64 hn)]
  unfold I64 mL absW U64 at *
  split <;> omega
theorem neg_n {n : Int} (hn : I64 n) : wH n < 0 ↔ n < 0 := by
  obtain ⟨e, _⟩ := of_eq hn
  rw [← e]; unfold I64 at hn; omega
theorem neg_h {h l : Int} (hl : U64 l) : h < 0 ↔ val h l < 0 := by unfold val U64 at *; omega
theorem absW_mul (v n : Int) : absW v * absW n = absW (v * n) := by
  unfold absW
  by_cases a : v < 0 <;> by_cases b : n < 0
  · have := Int.mul_pos_of_neg_of_neg a b
    rw [if_pos a, if_pos b, if_neg (by omega), Int.neg_mul_neg]
  · rcases Int.lt_or_eq_of_le (Int.not_lt.1 b) with c | c
    · have := Int.mul_neg_of_neg_of_pos a c
      rw [if_pos a, if_neg b, if_pos this, Int.neg_mul]
    · subst c; simp
  · rcases Int.lt_or_eq_of_le (Int.not_lt.1 a) with c | c
    · have := Int.mul_neg_of_pos_of_neg c b
      rw [if_neg a, if_pos b, if_pos this, Int.mul_neg]
    · subst c; simp
  · have := Int.mul_nonneg (Int.not_lt.1 a) (Int.not_lt.1 b)
    rw [if_neg a, if_neg b, if_neg (by omega)]
theorem signed_mul (v n : Int) : signed (decide (v < 0) != decide (n < 0)) (absW v * absW n) = v * n := by
  unfold absW signed
  by_cases a : v < 0 <;> by_cases b : n < 0 <;> simp [a, b, Int.neg_mul, Int.mul_neg]
theorem scale_out {v n : Int} (h : fitsM (absW v * absW n) = false) : inW (v * n) = false := by
  rw [absW_mul] at h
  simp only [fitsM, decide_eq_false_iff_not] at h
  rw [inW_not]
  unfold absW at h
  split at h <;> omega
theorem mH_keep_U64 {v : Int} (h0 : 0 ≤ v) : U64 (mH (keepM v)) := by
  unfold keepM
  split
  · rename_i h; simp only [fitsM, decide_eq_true_eq] at h; exact mH_U64 h0 h
  · exact mH_U64 (by omega) (by omega)
theorem absW_nonneg (v : Int) : 0 ≤ absW v := by unfold absW; split <;> omega
theorem absW_halves {h l : Int} (hh : I64 h) (hl : U64 l) : U64 (mH (absW (val h l))) ∧ U64 (mL (absW (val h l))) := by
  have := absW_U hh hl
  exact ⟨mH_U64 this.1 (by omega), mL_U64 _⟩
end Go.Proofs.YtipoccelkgijgaaDoor.WM
