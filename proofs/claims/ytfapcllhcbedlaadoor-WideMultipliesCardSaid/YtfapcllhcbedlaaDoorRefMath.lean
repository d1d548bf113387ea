/-
  The plain arithmetic of the document's own answers for wide numbers.
-/
import Derived.Test.YtfapcllhcbedlaaDoorMathD
import Derived.DataShut
namespace Go.Proofs.YtfapcllhcbedlaaDoor.WM
open Go Go.RowKit

theorem ofInt_toNat (x : Int) (hx : U64 x) : ((BitVec.ofInt 64 x).toNat : Int) = x := by
  unfold U64 at hx
  rw [toNat_ofInt64]; omega
/-- The complement of a uint64. -/
theorem u64_not (x : Int) (hx : U64 x) : bits .xor .u64 IntKind.u64.max x = 18446744073709551615 - x := by
  have h : bits .xor .u64 IntKind.u64.max x = IntKind.u64.wrap ((BitVec.ofInt 64 IntKind.u64.max ^^^ BitVec.ofInt 64 x).toNat : Int) := rfl
  have e : BitVec.ofInt 64 IntKind.u64.max = BitVec.allOnes 64 := by decide
  rw [h, e, BitVec.allOnes_xor, BitVec.toNat_not, IntKind.wrap_u64]
  have h2 := ofInt_toNat x hx
  unfold U64 at hx
  omega
/-- Is the highest bit set? -/
theorem u64_top (x : Int) (hx : U64 x) : bits .and .u64 x 9223372036854775808 = if 9223372036854775808 ≤ x then 9223372036854775808 else 0 := by
  have h : bits .and .u64 x 9223372036854775808 = IntKind.u64.wrap ((BitVec.ofInt 64 x &&& BitVec.ofInt 64 9223372036854775808).toNat : Int) := rfl
  have e : BitVec.ofInt 64 9223372036854775808 = BitVec.twoPow 64 63 := by decide
  have h2 := ofInt_toNat x hx
  have hb : (BitVec.ofInt 64 x).getLsbD 63 = decide (9223372036854775808 ≤ x) := by
    have : (BitVec.ofInt 64 x).msb = (BitVec.ofInt 64 x).getLsbD 63 := by rw [BitVec.msb_eq_getLsbD_last]
    rw [← this, BitVec.msb_eq_decide]
    have e3 : (2 : Nat) ^ (64 - 1) = 9223372036854775808 := by decide
    rw [e3]
    congr 1
    apply propext
    constructor <;> intro h' <;> omega
  rw [h, e, BitVec.and_twoPow, hb, IntKind.wrap_u64]
  by_cases c : 9223372036854775808 ≤ x
  · rw [if_pos c, if_pos (by simpa using c)]
    decide
  · rw [if_neg c, if_neg (by simpa using c)]
    decide
/-- Magnitudes modulo 2^128. -/
def modM (v : Int) : Int := v % 340282366920938463463374607431768211456
theorem modM_fits {v : Int} (h0 : 0 ≤ v) (h : fitsM v = true) : modM v = v := by
  simp only [fitsM, decide_eq_true_eq] at h; unfold modM; omega
theorem modM_bd (v : Int) : 0 ≤ modM v ∧ modM v < 340282366920938463463374607431768211456 := by unfold modM; omega
theorem modM_U (v : Int) : U64 (mH (modM v)) ∧ U64 (mL (modM v)) := ⟨mH_U64 (modM_bd v).1 (modM_bd v).2, mL_U64 _⟩
theorem mag_bd {h l : Int} (hh : U64 h) (hl : U64 l) : 0 ≤ val h l ∧ val h l < 340282366920938463463374607431768211456 := by unfold val U64 at *; omega
end Go.Proofs.YtfapcllhcbedlaaDoor.WM
