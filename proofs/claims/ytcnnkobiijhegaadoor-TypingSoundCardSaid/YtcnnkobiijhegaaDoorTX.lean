/-
  Tokens: contracts of the document's own Rate, digits, Percent.
-/
import Derived.Test.YtcnnkobiijhegaaDoorTV
namespace Go.Proofs.YtcnnkobiijhegaaDoor
open Go Go.RowKit Go.Lib WM TM

def pE (n : Int) : Int := if 0 ≤ n ∧ n ≤ 1000000 then 0 else 1
def pV (n : Int) : List UInt8 := if 0 ≤ n ∧ n ≤ 1000000 then pct n.toNat else []
theorem tl_head (f : List UInt8) : ∀ c, (tl f ++ [37]).head? = some c → dig c = false := by
  intro c h
  unfold tl at h
  split at h
  · simp at h; subst h; decide
  · simp at h; subst h; decide
theorem sub48 (c : UInt8) (h : dig c = true) : IntKind.u8.wrap ((c.toNat : Int) - 48) = ((c.toNat - 48 : Nat) : Int) := by
  have hb := dig_bounds h
  rw [IntKind.wrap_u8]
  omega
theorem dig_nine {c : UInt8} (h : dig c = true) : c.toNat - 48 ≤ 9 := by have := dig_bounds h; omega
theorem ten_more (a z : Nat) (ha : a ≤ 1000000) (hz : z ≤ 9) : wrap64 (10 * (a : Int)) = 10 * (a : Int) ∧ wrap64 (10 * (a : Int) + (z : Int)) = 10 * (a : Int) + (z : Int) := by
  refine ⟨?_, ?_⟩
  · unfold wrap64; omega
  · unfold wrap64; omega
theorem ten_zero (a j : Nat) (hj : j ≤ 3) (ha : a ≤ 1000000 * 10 ^ j) : wrap64 (10 * (a : Int)) = ((10 * a : Nat) : Int) := by
  have hp : 10 ^ j ≤ 1000 := by
    have := Nat.pow_le_pow_right (show 0 < 10 by decide) hj
    omega
  have hp2 := Nat.mul_le_mul_left 1000000 hp
  unfold wrap64; omega
theorem one_more (F j : Nat) (h : F + j ≤ 4) : wrap64 ((F : Int) + (j : Int) + 1) = ((F + (j + 1) : Nat) : Int) := by unfold wrap64; omega
end Go.Proofs.YtcnnkobiijhegaaDoor
