/-
  The arithmetic of this seat, plain: wide numbers in halves, decimal numerals, digits read, the document's own steps, the rounded quotient.
-/
import Derived.Laws.Bits64b
import Derived.WalkKit
import Derived.Lib.ItoaNum
import Derived.Lib.Repeat
import Derived.DataShut
import Derived.Lib.LaidTab

/-
  The plain arithmetic of wide numbers (128 bits): values, results, sign bits. No program in this text.
-/
namespace Go.Proofs.YtjhfbnndapopgaaDoor.WM
open Go Go.RowKit

/-- The value of a wide number's two fields. -/
def val (h l : Int) : Int := h * 18446744073709551616 + l
/-- Is this the value of a wide number? -/
def inW (v : Int) : Bool := decide (-170141183460469231731687303715884105728 ≤ v ∧ v ≤ 170141183460469231731687303715884105727)
/-- The fields of the result of an operation whose exact result is v, and its error. -/
def wH (v : Int) : Int := if inW v then v / 18446744073709551616 else 0
def wL (v : Int) : Int := if inW v then v % 18446744073709551616 else 0
def wE (v : Int) : Int := if inW v then 0 else 6
def I64 (n : Int) : Prop := -9223372036854775808 ≤ n ∧ n ≤ 9223372036854775807
def U64 (n : Int) : Prop := 0 ≤ n ∧ n ≤ 18446744073709551615

theorem inW_iff (v : Int) : inW v = true ↔ (-170141183460469231731687303715884105728 ≤ v ∧ v ≤ 170141183460469231731687303715884105727) := by simp [inW]
theorem inW_not (v : Int) : inW v = false ↔ ¬ (-170141183460469231731687303715884105728 ≤ v ∧ v ≤ 170141183460469231731687303715884105727) := by simp [inW]
theorem inW_val {h l : Int} (hh : I64 h) (hl : U64 l) : inW (val h l) = true := by unfold I64 U64 at *; rw [inW_iff]; unfold val; omega
theorem wH_in {v : Int} (h : inW v = true) : wH v = v / 18446744073709551616 := by simp [wH, h]
theorem wL_in {v : Int} (h : inW v = true) : wL v = v % 18446744073709551616 := by simp [wL, h]
theorem wE_in {v : Int} (h : inW v = true) : wE v = 0 := by simp [wE, h]
theorem wH_out {v : Int} (h : inW v = false) : wH v = 0 := by simp [wH, h]
theorem wL_out {v : Int} (h : inW v = false) : wL v = 0 := by simp [wL, h]
theorem wE_out {v : Int} (h : inW v = false) : wE v = 6 := by simp [wE, h]
theorem wH_I64 (v : Int) : I64 (wH v) := by
  unfold I64
  cases h : inW v
  · rw [wH_out h]; omega
  · rw [wH_in h]; rw [inW_iff] at h; omega
theorem wL_U64 (v : Int) : U64 (wL v) := by
  unfold U64
  cases h : inW v
  · rw [wL_out h]; omega
  · rw [wL_in h]; omega
theorem val_w {v : Int} (h : inW v = true) : val (wH v) (wL v) = v := by rw [wH_in h, wL_in h]; unfold val; omega
theorem wH_val {h l : Int} (hh : I64 h) (hl : U64 l) : wH (val h l) = h := by
  rw [wH_in (inW_val hh hl)]; unfold val U64 at *; omega
theorem wL_val {h l : Int} (hh : I64 h) (hl : U64 l) : wL (val h l) = l := by
  rw [wL_in (inW_val hh hl)]; unfold val U64 at *; omega
theorem val_inj {h l h' l' : Int} (hl : U64 l) (hl' : U64 l') (e : val h l = val h' l') : h = h' ∧ l = l' := by
  unfold val U64 at *; omega

theorem toNat_ofInt64 (x : Int) : ((BitVec.ofInt 64 x).toNat : Int) = x % 18446744073709551616 := by
  rw [BitVec.toNat_ofInt]
  have : (((2 ^ 64 : Nat) : Int)) = 18446744073709551616 := by decide
  rw [this]; omega
theorem msb_ofInt (x : Int) (hx : I64 x) : (BitVec.ofInt 64 x).msb = decide (x < 0) := by
  unfold I64 at hx
  have h := toNat_ofInt64 x
  rw [BitVec.msb_eq_decide]
  have e : (2 : Nat) ^ (64 - 1) = 9223372036854775808 := by decide
  rw [e]
  congr 1
  apply propext
  constructor
  · intro h'; omega
  · intro h'; omega
theorem wrap_msb (b : BitVec 64) : IntKind.i64.wrap (b.toNat : Int) < 0 ↔ b.msb = true := by
  have hb := b.isLt
  rw [IntKind.wrap_i64, BitVec.msb_eq_decide]
  have e : (2 : Nat) ^ (64 - 1) = 9223372036854775808 := by decide
  rw [e]
  have e2 : (2 : Nat) ^ 64 = 18446744073709551616 := by decide
  rw [e2] at hb
  simp only [decide_eq_true_eq]
  omega
theorem bits_I64 (op : BinOp) (x y : Int) : I64 (bits op .i64 x y) := by
  unfold I64 bits
  have h : ∀ n : Int, -9223372036854775808 ≤ IntKind.i64.wrap n ∧ IntKind.i64.wrap n ≤ 9223372036854775807 := fun n => by rw [IntKind.wrap_i64]; omega
  split <;> exact h _
theorem and_neg (x y : Int) (hx : I64 x) (hy : I64 y) : bits .and .i64 x y < 0 ↔ (x < 0 ∧ y < 0) := by
  have h : bits .and .i64 x y = IntKind.i64.wrap ((BitVec.ofInt 64 x &&& BitVec.ofInt 64 y).toNat : Int) := rfl
  rw [h, wrap_msb, BitVec.msb_and, msb_ofInt x hx, msb_ofInt y hy]
  simp
theorem xor_neg (x y : Int) (hx : I64 x) (hy : I64 y) : bits .xor .i64 x y < 0 ↔ ((x < 0 ∧ 0 ≤ y) ∨ (0 ≤ x ∧ y < 0)) := by
  have h : bits .xor .i64 x y = IntKind.i64.wrap ((BitVec.ofInt 64 x ^^^ BitVec.ofInt 64 y).toNat : Int) := rfl
  rw [h, wrap_msb, BitVec.msb_xor, msb_ofInt x hx, msb_ofInt y hy]
  by_cases a : x < 0 <;> by_cases b : y < 0 <;> simp [a, b] <;> omega
theorem wrap64_I64 (n : Int) : I64 (wrap64 n) := by unfold I64 wrap64; omega

/-- Add's overflow test. -/
theorem add_test {ha la hb lb : Int} (h1 : I64 ha) (h2 : U64 la) (h3 : I64 hb) (h4 : U64 lb) :
    (bits .and .i64 (bits .xor .i64 ha (wrap64 (wrap64 (ha + hb) + wrap64 ((la + lb) / 18446744073709551616)))) (bits .xor .i64 hb (wrap64 (wrap64 (ha + hb) + wrap64 ((la + lb) / 18446744073709551616)))) < 0) ↔ inW (val ha la + val hb lb) = false := by
  have hw := wrap64_I64 (wrap64 (ha + hb) + wrap64 ((la + lb) / 18446744073709551616))
  rw [and_neg _ _ (bits_I64 _ _ _) (bits_I64 _ _ _), xor_neg _ _ h1 hw, xor_neg _ _ h3 hw, inW_not]
  unfold I64 U64 val wrap64 at *
  omega
theorem add_hi {ha la hb lb : Int} (_h1 : I64 ha) (h2 : U64 la) (_h3 : I64 hb) (h4 : U64 lb) (h : inW (val ha la + val hb lb) = true) :
    wrap64 (wrap64 (ha + hb) + wrap64 ((la + lb) / 18446744073709551616)) = wH (val ha la + val hb lb) ∧ (la + lb) % 18446744073709551616 = wL (val ha la + val hb lb) := by
  rw [wH_in h, wL_in h]
  rw [inW_iff] at h
  unfold I64 U64 val wrap64 at *
  omega
/-- Sub's overflow test. -/
theorem sub_test {ha la hb lb : Int} (h1 : I64 ha) (h2 : U64 la) (h3 : I64 hb) (h4 : U64 lb) :
    (bits .and .i64 (bits .xor .i64 ha hb) (bits .xor .i64 ha (wrap64 (wrap64 (ha - hb) - wrap64 (if la < lb then 1 else 0)))) < 0) ↔ inW (val ha la - val hb lb) = false := by
  have hw := wrap64_I64 (wrap64 (ha - hb) - wrap64 (if la < lb then 1 else 0))
  rw [and_neg _ _ (bits_I64 _ _ _) (bits_I64 _ _ _), xor_neg _ _ h1 h3, xor_neg _ _ h1 hw, inW_not]
  unfold I64 U64 val wrap64 at *
  split <;> omega
theorem sub_hi {ha la hb lb : Int} (_h1 : I64 ha) (h2 : U64 la) (_h3 : I64 hb) (h4 : U64 lb) (h : inW (val ha la - val hb lb) = true) :
    wrap64 (wrap64 (ha - hb) - wrap64 (if la < lb then 1 else 0)) = wH (val ha la - val hb lb) ∧ (la - lb) % 18446744073709551616 = wL (val ha la - val hb lb) := by
  rw [wH_in h, wL_in h]
  rw [inW_iff] at h
  unfold I64 U64 val wrap64 at *
  constructor
  · split <;> omega
  · omega
/-- The two halves of a magnitude, and its opposite modulo 2^128. -/
def mH (v : Int) : Int := v / 18446744073709551616
def mL (v : Int) : Int := v % 18446744073709551616
def negM (v : Int) : Int := (-v) % 340282366920938463463374607431768211456
theorem mag_val {h l : Int} (hl : U64 l) : mH (val h l) = h ∧ mL (val h l) = l := by unfold mH mL val U64 at *; omega
theorem val_mag (v : Int) : val (mH v) (mL v) = v := by unfold mH mL val; omega
theorem mL_U64 (v : Int) : U64 (mL v) := by unfold mL U64; omega
theorem mH_U64 {v : Int} (h0 : 0 ≤ v) (h1 : v < 340282366920938463463374607431768211456) : U64 (mH v) := by unfold mH U64; omega
theorem neg_eq {h l : Int} (hl : U64 l) : (-h - (if 0 < l + 0 then 1 else 0)) % 18446744073709551616 = mH (negM (val h l)) ∧ (-l) % 18446744073709551616 = mL (negM (val h l)) := by
  unfold mH mL negM val U64 at *
  split <;> omega
/-- The size of a number. -/
def absW (v : Int) : Int := if v < 0 then -v else v
theorem absW_U {h l : Int} (hh : I64 h) (hl : U64 l) : 0 ≤ absW (val h l) ∧ absW (val h l) ≤ 170141183460469231731687303715884105728 := by
  unfold absW val I64 U64 at *; split <;> omega
theorem split_pos {h l : Int} (hh : 0 ≤ h) (hh1 : I64 h) (hl : U64 l) : IntKind.u64.wrap h = mH (absW (val h l)) ∧ l = mL (absW (val h l)) := by
  rw [IntKind.wrap_u64]
  unfold absW mH mL val I64 U64 at *; split <;> omega
theorem split_neg {h l : Int} (hh : h < 0) (hh1 : I64 h) (hl : U64 l) : mH (negM (val (IntKind.u64.wrap h) l)) = mH (absW (val h l)) ∧ mL (negM (val (IntKind.u64.wrap h) l)) = mL (absW (val h l)) := by
  rw [IntKind.wrap_u64]
  unfold absW negM mH mL val I64 U64 at *; split <;> omega
theorem wrap_u64_U64 (n : Int) : U64 (IntKind.u64.wrap n) := by rw [IntKind.wrap_u64]; unfold U64; omega
/-- Of. -/
theorem of_eq {n : Int} (hn : I64 n) : n / 9223372036854775808 = wH n ∧ IntKind.u64.wrap n = wL n := by
  have h : inW n = true := by rw [inW_iff]; unfold I64 at hn; omega
  rw [wH_in h, wL_in h, IntKind.wrap_u64]
  unfold I64 at hn; omega
theorem inW_I64 {n : Int} (hn : I64 n) : inW n = true := by rw [inW_iff]; unfold I64 at hn; omega
/-- Cmp. -/
def cmpW (a b : Int) : Int := if a < b then -1 else if b < a then 1 else 0
theorem cmp_hi {ha la hb lb : Int} (h2 : U64 la) (h4 : U64 lb) (h : ha ≠ hb) : cmpW ha hb = cmpW (val ha la) (val hb lb) := by
  unfold cmpW val U64 at *
  split <;> split <;> (try split) <;> (try split) <;> omega
theorem cmp_lo {ha la lb : Int} : cmpW la lb = cmpW (val ha la) (val ha lb) := by
  unfold cmpW val
  split <;> split <;> (try split) <;> (try split) <;> omega
/-- Is this number an int? -/
def isInt (v : Int) : Bool := decide (-9223372036854775808 ≤ v ∧ v ≤ 9223372036854775807)
def toInt (v : Int) : Int := if isInt v then v else 0
theorem int_yes {h l : Int} (hh : I64 h) (hl : U64 l) (hi : isInt (val h l) = true) : wrap64 l = val h l ∧ wH (wrap64 l) = h ∧ wL (wrap64 l) = l := by
  have e : wrap64 l = val h l := by
    simp only [isInt, decide_eq_true_eq] at hi
    unfold wrap64 val I64 U64 at *; omega
  refine ⟨e, ?_, ?_⟩
  · rw [e, wH_val hh hl]
  · rw [e, wL_val hh hl]
theorem int_no {h l : Int} (_hh : I64 h) (hl : U64 l) (hi : isInt (val h l) = false) : ¬ wH (wrap64 l) = h ∨ (wH (wrap64 l) = h ∧ ¬ wL (wrap64 l) = l) := by
  have h1 := wrap64_I64 l
  obtain ⟨e1, e2⟩ := of_eq h1
  rw [← e1, ← e2, IntKind.wrap_u64]
  simp only [isInt, decide_eq_false_iff_not] at hi
  unfold wrap64 val I64 U64 at *; omega
/-- Is this a magnitude? What is returned where it is none is 0. -/
def fitsM (v : Int) : Bool := decide (v < 340282366920938463463374607431768211456)
def keepM (v : Int) : Int := if fitsM v then v else 0
theorem keepM_no {v : Int} (h : fitsM v = false) : keepM v = 0 := by simp [keepM, h]
theorem keepM_yes {v : Int} (h : fitsM v = true) : keepM v = v := by simp [keepM, h]
def signed (b : Bool) (v : Int) : Int := if b then -v else v
theorem join_out {h l : Int} {b : Bool} (hl : U64 l) (h1 : 9223372036854775808 ≤ h) (h2 : ¬ (b = true ∧ h = 9223372036854775808 ∧ l = 0)) : inW (signed b (val h l)) = false := by
  rw [inW_not]
  unfold signed val U64 at *
  cases b
  · rw [if_neg (by decide)]; omega
  · rw [if_pos rfl]; simp only [true_and] at h2; omega
theorem join_pos {h l : Int} (hl : U64 l) (h0 : 0 ≤ h) (h1 : h < 9223372036854775808) : inW (signed false (val h l)) = true ∧ wrap64 h = wH (signed false (val h l)) ∧ l = wL (signed false (val h l)) := by
  have e : signed false (val h l) = val h l := by unfold signed; rw [if_neg (by decide)]
  rw [e]
  have hi : I64 h := by unfold I64; omega
  rw [wH_val hi hl, wL_val hi hl]
  refine ⟨inW_val hi hl, ?_, rfl⟩
  unfold wrap64; omega
theorem join_neg {h l : Int} (hl : U64 l) (h0 : 0 ≤ h) (h1 : h < 9223372036854775808 ∨ h = 9223372036854775808 ∧ l = 0) : inW (signed true (val h l)) = true ∧ wrap64 (mH (negM (val h l))) = wH (signed true (val h l)) ∧ mL (negM (val h l)) = wL (signed true (val h l)) := by
  have e : signed true (val h l) = -(val h l) := by unfold signed; rw [if_pos rfl]
  have hi : inW (-(val h l)) = true := by rw [inW_iff]; unfold val U64 at *; omega
  rw [e, wH_in hi, wL_in hi]
  refine ⟨hi, ?_, ?_⟩
  · unfold wrap64 mH negM val U64 at *; omega
  · unfold mL negM val U64 at *; omega
theorem times_eq {h l f s : Int} (hA : 0 ≤ h * f) (hB : 0 ≤ l * f) (hs : U64 s) :
    (¬ h * f / 18446744073709551616 = 0 → fitsM (val h l * f + s) = false) ∧
    (¬ (h * f % 18446744073709551616 + l * f / 18446744073709551616 + (l * f % 18446744073709551616 + s) / 18446744073709551616) / 18446744073709551616 = 0 → fitsM (val h l * f + s) = false) ∧
    (h * f / 18446744073709551616 = 0 → (h * f % 18446744073709551616 + l * f / 18446744073709551616 + (l * f % 18446744073709551616 + s) / 18446744073709551616) / 18446744073709551616 = 0 →
      fitsM (val h l * f + s) = true ∧ (h * f % 18446744073709551616 + l * f / 18446744073709551616 + (l * f % 18446744073709551616 + s) / 18446744073709551616) % 18446744073709551616 = mH (keepM (val h l * f + s)) ∧ (l * f % 18446744073709551616 + s) % 18446744073709551616 = mL (keepM (val h l * f + s))) := by
  have e : val h l * f + s = (h * f) * 18446744073709551616 + l * f + s := by
    unfold val; rw [Int.add_mul, Int.mul_right_comm]
  rw [e]
  generalize h * f = A at *
  generalize l * f = B at *
  unfold U64 at hs
  refine ⟨fun h1 => ?_, fun h1 => ?_, fun h1 h2 => ?_⟩
  · simp only [fitsM, decide_eq_false_iff_not]; omega
  · simp only [fitsM, decide_eq_false_iff_not]; omega
  · have hf : fitsM (A * 18446744073709551616 + B + s) = true := by simp only [fitsM, decide_eq_true_eq]; omega
    refine ⟨hf, ?_, ?_⟩
    · unfold mH keepM; rw [if_pos hf]; omega
    · unfold mL keepM; rw [if_pos hf]; omega
end Go.Proofs.YtjhfbnndapopgaaDoor.WM

/-
  More plain arithmetic of wide numbers: products of signed numbers.
-/
namespace Go.Proofs.YtjhfbnndapopgaaDoor.WM
open Go Go.RowKit

theorem abs_n {n : Int} (hn : I64 n) : mL (absW (val (wH n) (wL n))) = absW n ∧ U64 (absW n) := by
  rw [val_w (inW_I64 hn)]
  unfold I64 mL absW U64 at *
  split <;> omega
theorem neg_n {n : Int} (hn : I64 n) : wH n < 0 ↔ n < 0 := by
  obtain ⟨e, _⟩ := of_eq hn
  rw [← e]; unfold I64 at hn; omega
theorem neg_h {h l : Int} (hl : U64 l) : h < 0 ↔ val h l < 0 := by unfold val U64 at *; omega
theorem absW_mul (v n : Int) : absW v * absW n = absW (v * n) := by
  unfold absW
  by_cases a : v < 0 <;> by_cases b : n < 0
  · have := Int.mul_pos_of_neg_of_neg a b
    rw [if_pos a, if_pos b, if_neg (by omega), Int.neg_mul_neg]
  · rcases Int.lt_or_eq_of_le (Int.not_lt.1 b) with c | c
    · have := Int.mul_neg_of_neg_of_pos a c
      rw [if_pos a, if_neg b, if_pos this, Int.neg_mul]
    · subst c; simp
  · rcases Int.lt_or_eq_of_le (Int.not_lt.1 a) with c | c
    · have := Int.mul_neg_of_pos_of_neg c b
      rw [if_neg a, if_pos b, if_pos this, Int.mul_neg]
    · subst c; simp
  · have := Int.mul_nonneg (Int.not_lt.1 a) (Int.not_lt.1 b)
    rw [if_neg a, if_neg b, if_neg (by omega)]
theorem signed_mul (v n : Int) : signed (decide (v < 0) != decide (n < 0)) (absW v * absW n) = v * n := by
  unfold absW signed
  by_cases a : v < 0 <;> by_cases b : n < 0 <;> simp [a, b, Int.neg_mul, Int.mul_neg]
theorem scale_out {v n : Int} (h : fitsM (absW v * absW n) = false) : inW (v * n) = false := by
  rw [absW_mul] at h
  simp only [fitsM, decide_eq_false_iff_not] at h
  rw [inW_not]
  unfold absW at h
  split at h <;> omega
theorem mH_keep_U64 {v : Int} (h0 : 0 ≤ v) : U64 (mH (keepM v)) := by
  unfold keepM
  split
  · rename_i h; simp only [fitsM, decide_eq_true_eq] at h; exact mH_U64 h0 h
  · exact mH_U64 (by omega) (by omega)
theorem absW_nonneg (v : Int) : 0 ≤ absW v := by unfold absW; split <;> omega
theorem absW_halves {h l : Int} (hh : I64 h) (hl : U64 l) : U64 (mH (absW (val h l))) ∧ U64 (mL (absW (val h l))) := by
  have := absW_U hh hl
  exact ⟨mH_U64 this.1 (by omega), mL_U64 _⟩
end Go.Proofs.YtjhfbnndapopgaaDoor.WM

/-
  The plain arithmetic of Div.
-/
namespace Go.Proofs.YtjhfbnndapopgaaDoor.WM
open Go Go.RowKit

theorem divide_eq {h l d : Int} (hd0 : 0 < d) (hl : U64 l) (hd : U64 d) :
    h / d = mH (val h l / d) ∧ val (h % d) l / d = mL (val h l / d) ∧ val (h % d) l % d = val h l % d := by
  have e := Int.mul_ediv_add_emod h d
  have m0 := Int.emod_nonneg h (Int.ne_of_gt hd0)
  have m1 := Int.emod_lt_of_pos h hd0
  have e1 : val h l = val (h % d) l + (h / d * 18446744073709551616) * d := by
    unfold val
    rw [Int.mul_right_comm, Int.mul_comm (h / d) d]
    generalize d * (h / d) = x at *
    omega
  have e2 : val h l / d = val (h % d) l / d + h / d * 18446744073709551616 := by rw [e1, Int.add_mul_ediv_right _ _ (Int.ne_of_gt hd0)]
  have e3 : val h l % d = val (h % d) l % d := by rw [e1, Int.add_mul_emod_self_right]
  have b0 : 0 ≤ val (h % d) l / d := Int.ediv_nonneg (by unfold val U64 at *; omega) (Int.le_of_lt hd0)
  have b1 : val (h % d) l / d < 18446744073709551616 := by
    apply Int.ediv_lt_of_lt_mul hd0
    unfold val U64 at *
    generalize h % d = r at *
    omega
  refine ⟨?_, ?_, e3.symm⟩
  · unfold mH; rw [e2]; generalize h / d = q at *; generalize val (h % d) l / d = p at *; omega
  · unfold mL; rw [e2]; generalize h / d = q at *; generalize val (h % d) l / d = p at *; omega
theorem div_signs {v n : Int} (hn : 0 < n) (hv : -170141183460469231731687303715884105728 ≤ v ∧ v ≤ 170141183460469231731687303715884105727) :
    0 ≤ absW v / n ∧ absW v / n ≤ 170141183460469231731687303715884105728 ∧ 0 ≤ absW v % n ∧ absW v % n < n ∧
    (0 ≤ v → signed false (absW v / n) = v / n ∧ absW v % n = v % n) ∧
    (v < 0 → absW v % n = 0 → signed true (absW v / n) = v / n ∧ absW v % n = v % n) ∧
    (v < 0 → absW v % n ≠ 0 → signed true (absW v / n + 1) = v / n ∧ n - absW v % n = v % n) := by
  have a0 := absW_nonneg v
  have e := Int.mul_ediv_add_emod (absW v) n
  have r0 := Int.emod_nonneg (absW v) (Int.ne_of_gt hn)
  have r1 := Int.emod_lt_of_pos (absW v) hn
  have q0 := Int.ediv_nonneg a0 (Int.le_of_lt hn)
  have q1 := Int.ediv_le_self n a0
  have ab : absW v ≤ 170141183460469231731687303715884105728 := by unfold absW; split <;> omega
  refine ⟨q0, by omega, r0, r1, fun h => ?_, fun h hz => ?_, fun h hz => ?_⟩
  · have ha : absW v = v := by unfold absW; rw [if_neg (by omega)]
    rw [ha]
    exact ⟨by unfold signed; simp, rfl⟩
  · have ha : absW v = -v := by unfold absW; rw [if_pos h]
    generalize absW v / n = q at *
    generalize absW v % n = r at *
    have := (Int.ediv_emod_unique (a := v) (b := n) (r := 0) (q := -q) hn).2 ⟨by rw [Int.mul_neg]; omega, by omega, by omega⟩
    refine ⟨by unfold signed; rw [if_pos rfl]; exact this.1.symm, by rw [hz]; exact this.2.symm⟩
  · have ha : absW v = -v := by unfold absW; rw [if_pos h]
    generalize absW v / n = q at *
    generalize absW v % n = r at *
    have := (Int.ediv_emod_unique (a := v) (b := n) (r := n - r) (q := -(q + 1)) hn).2 ⟨by rw [Int.mul_neg, Int.mul_add, Int.mul_one]; omega, by omega, by omega⟩
    exact ⟨by unfold signed; rw [if_pos rfl]; exact this.1.symm, this.2.symm⟩
end Go.Proofs.YtjhfbnndapopgaaDoor.WM

/-
  A number is its quotient times the divisor plus the remainder, plain.
-/
namespace Go.Proofs.YtjhfbnndapopgaaDoor.WM
open Go Go.RowKit

theorem div_parts {v n : Int} (hn : 1 ≤ n) (hn2 : I64 n) (hv : inW v = true) :
    inW (v / n) = true ∧ 0 ≤ v % n ∧ v % n < n ∧ I64 (v % n) ∧ v / n * n + v % n = v ∧
    (inW (v / n * n) = false → 0 < v % n ∧ v < 0 ∧ inW (v / n + 1) = true ∧ inW ((v / n + 1) * n) = true ∧ I64 (n - v % n) ∧ (v / n + 1) * n - (n - v % n) = v) := by
  rw [inW_iff] at hv
  have e := Int.mul_ediv_add_emod v n
  have r0 := Int.emod_nonneg v (show n ≠ 0 by omega)
  have r1 := Int.emod_lt_of_pos v (show 0 < n by omega)
  rw [Int.mul_comm] at e
  have hq : inW (v / n) = true := by
    rw [inW_iff]
    rcases Int.lt_or_le v 0 with c | c
    · have h1 : v / n < 0 := Int.ediv_neg_of_neg_of_pos c (by omega)
      have h2 : v / n * n ≤ v / n * 1 := Int.mul_le_mul_of_nonpos_left (by omega) (by omega)
      have h3 : -170141183460469231731687303715884105728 ≤ v / n := by
        apply Int.le_ediv_of_mul_le (by omega)
        have : (-170141183460469231731687303715884105728 : Int) * n ≤ -170141183460469231731687303715884105728 * 1 := Int.mul_le_mul_of_nonpos_left (by decide) (by omega)
        omega
      omega
    · have h1 := Int.ediv_nonneg c (show 0 ≤ n by omega)
      have h2 := Int.ediv_le_self n c
      omega
  refine ⟨hq, r0, r1, by unfold I64 at *; omega, e, fun h => ?_⟩
  rw [inW_not] at h
  have e2 : (v / n + 1) * n = v / n * n + n := by rw [Int.add_mul, Int.one_mul]
  rw [inW_iff] at hq
  have hneg : v / n * n < -170141183460469231731687303715884105728 := by omega
  have hq1 : v / n < 0 := by
    rcases Int.lt_or_le (v / n) 0 with c | c
    · exact c
    · have := Int.mul_nonneg c (show 0 ≤ n by omega)
      omega
  rw [e2]
  unfold I64 at *
  refine ⟨by omega, by omega, by rw [inW_iff]; omega, by rw [inW_iff]; omega, by omega, by omega⟩
end Go.Proofs.YtjhfbnndapopgaaDoor.WM

/-
  The plain arithmetic of a division of two words by one (Knuth's algorithm D on halves).
-/
namespace Go.Proofs.YtjhfbnndapopgaaDoor.WM
open Go Go.RowKit

theorem bitLen_bounds (y : Int) (h0 : 0 < y) (h1 : y ≤ 18446744073709551615) : 1 ≤ Lib.bitLen y.toNat ∧ Lib.bitLen y.toNat ≤ 64 ∧ 9223372036854775808 ≤ y * 2 ^ (64 - Lib.bitLen y.toNat) ∧ y * 2 ^ (64 - Lib.bitLen y.toNat) < 18446744073709551616 := by
  obtain ⟨n, rfl⟩ := Int.eq_ofNat_of_zero_le (Int.le_of_lt h0)
  have hb := Lib.bitLenAux_bounds 64 n (by omega) (by omega)
  have e : Lib.bitLen n = Lib.bitLenAux 64 n := rfl
  rw [Int.toNat_natCast, e]
  obtain ⟨b1, b2, b3⟩ := hb
  generalize hB : Lib.bitLenAux 64 n = B at *
  have b4 : B ≤ 64 := by
    rcases Nat.lt_or_ge 64 B with h | h
    · have : 2 ^ 64 ≤ 2 ^ (B - 1) := Nat.pow_le_pow_right (by decide) (by omega)
      have e64 : (2 : Nat) ^ 64 = 18446744073709551616 := by decide
      omega
    · exact h
  have k1 : 2 ^ (B - 1) * 2 ^ (64 - B) = 2 ^ 63 := by rw [← Nat.pow_add]; congr 1; omega
  have k2 : 2 ^ B * 2 ^ (64 - B) = 2 ^ 64 := by rw [← Nat.pow_add]; congr 1; omega
  have hp : 0 < 2 ^ (64 - B) := Nat.pow_pos (by decide)
  have c1 : 2 ^ (B - 1) * 2 ^ (64 - B) ≤ n * 2 ^ (64 - B) := Nat.mul_le_mul_right _ b2
  have c2 : n * 2 ^ (64 - B) < 2 ^ B * 2 ^ (64 - B) := Nat.mul_lt_mul_of_pos_right b3 hp
  rw [k1] at c1
  rw [k2] at c2
  have ec : ((n : Int) * 2 ^ (64 - B)) = ((n * 2 ^ (64 - B) : Nat) : Int) := by rw [Int.natCast_mul, Int.natCast_pow]; rfl
  have e63 : (2 : Nat) ^ 63 = 9223372036854775808 := by decide
  have e64 : (2 : Nat) ^ 64 = 18446744073709551616 := by decide
  rw [ec]
  rw [e63] at c1
  rw [e64] at c2
  refine ⟨b1, b4, by omega, by omega⟩

theorem pq (s : Nat) (hs : s ≤ 63) : (2 : Int) ^ s * 2 ^ (64 - s) = 18446744073709551616 ∧ (0 : Int) < 2 ^ s ∧ (0 : Int) < 2 ^ (64 - s) := by
  refine ⟨?_, Int.pow_pos (by decide), Int.pow_pos (by decide)⟩
  rw [← Int.pow_add, show s + (64 - s) = 64 by omega]
  decide
/-- The dividend, shifted. -/
theorem shifted {hi lo P Q : Int} (hP : 0 < P) (hQ : 0 < Q) (hPQ : P * Q = 18446744073709551616) (h3 : U64 lo) :
    lo / Q < P ∧ 0 ≤ lo / Q ∧ lo * P % 18446744073709551616 = lo % Q * P ∧ val hi lo * P = (hi * P + lo / Q) * 18446744073709551616 + lo * P % 18446744073709551616 := by
  unfold U64 at h3
  have e0 : lo = lo / Q * Q + lo % Q := by rw [Int.mul_comm]; exact (Int.mul_ediv_add_emod lo Q).symm
  have m0 := Int.emod_nonneg lo (Int.ne_of_gt hQ)
  have m1 := Int.emod_lt_of_pos lo hQ
  have e1 : lo * P = lo / Q * 18446744073709551616 + lo % Q * P := by
    have : lo * P = (lo / Q * Q + lo % Q) * P := by rw [← e0]
    rw [this, Int.add_mul, Int.mul_assoc, Int.mul_comm Q P, hPQ]
  have n0 : 0 ≤ lo % Q * P := Int.mul_nonneg m0 (Int.le_of_lt hP)
  have n1 : lo % Q * P < 18446744073709551616 := by
    have := Int.mul_lt_mul_of_pos_right m1 hP
    rw [Int.mul_comm Q P, hPQ] at this
    exact this
  have e2 : lo * P % 18446744073709551616 = lo % Q * P := by rw [e1]; omega
  refine ⟨?_, Int.ediv_nonneg h3.1 (Int.le_of_lt hQ), e2, ?_⟩
  · apply Int.ediv_lt_of_lt_mul hQ
    rw [hPQ]; omega
  · rw [e2]
    unfold val
    have : (hi * 18446744073709551616 + lo) * P = hi * P * 18446744073709551616 + lo * P := by rw [Int.add_mul, Int.mul_right_comm]
    rw [this, e1]
    omega
theorem or_add (a b s : Nat) (hb : b < 2 ^ s) : (a * 2 ^ s ||| b) = a * 2 ^ s + b := by
  have := Nat.two_pow_add_eq_or_of_lt hb a
  rw [Nat.mul_comm] at this
  exact this.symm
theorem bits_or_add (hi l : Int) (s : Nat) (h0 : 0 ≤ hi) (h1 : hi * 2 ^ s < 18446744073709551616) (h2 : 0 ≤ l) (h3 : l < 2 ^ s) (hs : s ≤ 63) : bits .or .u64 (hi * 2 ^ s) l = hi * 2 ^ s + l := by
  obtain ⟨a, rfl⟩ := Int.eq_ofNat_of_zero_le h0
  obtain ⟨b, rfl⟩ := Int.eq_ofNat_of_zero_le h2
  have ec : ((a : Int) * 2 ^ s) = ((a * 2 ^ s : Nat) : Int) := by rw [Int.natCast_mul, Int.natCast_pow]; rfl
  have ec2 : ((2 : Int) ^ s) = ((2 ^ s : Nat) : Int) := by rw [Int.natCast_pow]; rfl
  have hb : b < 2 ^ s := by rw [ec2] at h3; omega
  have hp : 2 ^ s ≤ 2 ^ 63 := Nat.pow_le_pow_right (by decide) hs
  have e63 : (2 : Nat) ^ 63 = 9223372036854775808 := by decide
  rw [ec] at h1 ⊢
  rw [bits_or_u64_nat _ _ (by omega) (by omega), or_add a b s hb]
  omega

/-- The invariant of the search for one half of the quotient. -/
def KInv (u d n1 n0 q r : Int) : Prop :=
  0 ≤ q ∧ 0 ≤ r ∧ q * n1 + r = u ∧ u * 4294967296 + d < q * n1 * 4294967296 + q * n0 + (n1 * 4294967296 + n0) ∧ q ≤ 4294967297
/-- The half itself. -/
def Half (u d n1 n0 q : Int) : Prop := 0 ≤ q ∧ q * n1 * 4294967296 + q * n0 ≤ u * 4294967296 + d ∧ u * 4294967296 + d < q * n1 * 4294967296 + q * n0 + (n1 * 4294967296 + n0)
def Norm (n1 n0 : Int) : Prop := 2147483648 ≤ n1 ∧ n1 < 4294967296 ∧ 0 ≤ n0 ∧ n0 < 4294967296

theorem inv_start {u d n1 n0 : Int} (hn : Norm n1 n0) (hu0 : 0 ≤ u) (hu : u < n1 * 4294967296 + n0) (hd0 : 0 ≤ d) (hd : d < 4294967296) : KInv u d n1 n0 (u / n1) (u - u / n1 * n1) ∧ u - u / n1 * n1 < 4294967296 := by
  unfold Norm at hn
  have hp : 0 < n1 := by omega
  have q0 : 0 ≤ u / n1 := Int.ediv_nonneg hu0 (by omega)
  have e := Int.mul_ediv_add_emod u n1
  have m0 := Int.emod_nonneg u (Int.ne_of_gt hp)
  have m1 := Int.emod_lt_of_pos u hp
  rw [Int.mul_comm] at e
  have hq : u / n1 < 4294967298 := by
    apply Int.ediv_lt_of_lt_mul hp
    omega
  have hn0 : 0 ≤ u / n1 * n0 := Int.mul_nonneg q0 hn.2.2.1
  unfold KInv
  generalize u / n1 * n1 = p1 at *
  generalize u / n1 * n0 = p0 at *
  refine ⟨⟨q0, by omega, by omega, by omega, by omega⟩, by omega⟩

theorem inv_step {u d n1 n0 q r : Int} (hn : Norm n1 n0) (hu : u < n1 * 4294967296 + n0) (hd0 : 0 ≤ d) (hd : d < 4294967296) (h : KInv u d n1 n0 q r) (ht : 4294967296 ≤ q ∨ 4294967296 * r + d < q * n0) : 1 ≤ q ∧ KInv u d n1 n0 (q - 1) (r + n1) ∧ (4294967296 ≤ r + n1 → Half u d n1 n0 (q - 1)) := by
  unfold KInv Norm Half at *
  obtain ⟨q0, r0, e, i2, q1⟩ := h
  have hq : 1 ≤ q := by
    rcases ht with ht | ht
    · omega
    · rcases Int.lt_or_eq_of_le q0 with c | c
      · omega
      · subst c
        simp only [Int.zero_mul] at ht
        omega
  have f1 : (q - 1) * n1 = q * n1 - n1 := by rw [Int.sub_mul, Int.one_mul]
  have f0 : (q - 1) * n0 = q * n0 - n0 := by rw [Int.sub_mul, Int.one_mul]
  have g0 : (q - 1) * n0 ≤ 4294967296 * n0 := Int.mul_le_mul_of_nonneg_right (by omega) hn.2.2.1
  have g1 : 4294967296 ≤ q → 4294967296 * n1 ≤ q * n1 := fun h => Int.mul_le_mul_of_nonneg_right h (by omega)
  have g2 : 4294967296 ≤ q → 4294967296 * n0 ≤ q * n0 := fun h => Int.mul_le_mul_of_nonneg_right h (by omega)
  rw [f1, f0]
  rw [f0] at g0
  generalize q * n1 = p1 at *
  generalize q * n0 = p0 at *
  have key : u * 4294967296 + d < p1 * 4294967296 + p0 := by
    rcases ht with ht | ht
    · have := g1 ht
      have := g2 ht
      omega
    · omega
  refine ⟨hq, ⟨by omega, by omega, by omega, by omega, by omega⟩, fun h => ⟨by omega, by omega, by omega⟩⟩
theorem inv_done {u d n1 n0 q r : Int} (h : KInv u d n1 n0 q r) (ht : ¬ 4294967296 * r + d < q * n0) : Half u d n1 n0 q := by
  unfold KInv Half at *
  obtain ⟨q0, r0, e, i2, q1⟩ := h
  generalize q * n1 = p1 at *
  generalize q * n0 = p0 at *
  exact ⟨q0, by omega, by omega⟩
theorem half_lt {u d n1 n0 q : Int} (hn : Norm n1 n0) (hu : u < n1 * 4294967296 + n0) (hd : d < 4294967296) (h : Half u d n1 n0 q) : q < 4294967296 := by
  unfold Half Norm at *
  rcases Int.lt_or_le q 4294967296 with c | c
  · exact c
  · have g1 : 4294967296 * n1 ≤ q * n1 := Int.mul_le_mul_of_nonneg_right c (by omega)
    have g2 : 4294967296 * n0 ≤ q * n0 := Int.mul_le_mul_of_nonneg_right c (by omega)
    generalize q * n1 = p1 at *
    generalize q * n0 = p0 at *
    omega
/-- What is left after one half. -/
theorem half_rest {u d n1 n0 q : Int} (hn : Norm n1 n0) (h : Half u d n1 n0 q) : 0 ≤ u * 4294967296 + d - q * (n1 * 4294967296 + n0) ∧ u * 4294967296 + d - q * (n1 * 4294967296 + n0) < n1 * 4294967296 + n0 ∧
    (u * 4294967296 % 18446744073709551616 + d - q * (n1 * 4294967296 + n0) % 18446744073709551616) % 18446744073709551616 = u * 4294967296 + d - q * (n1 * 4294967296 + n0) := by
  unfold Half Norm at *
  have e : q * (n1 * 4294967296 + n0) = q * n1 * 4294967296 + q * n0 := by rw [Int.mul_add, Int.mul_assoc]
  rw [e]
  generalize q * n1 = p1 at *
  generalize q * n0 = p0 at *
  refine ⟨by omega, by omega, by omega⟩
/-- The whole quotient and the remainder. -/
theorem div_fin {N y P Y u10 a q1 q0 d1 d0 u32 u21 : Int} (hP : 0 < P) (hY : Y = y * P) (hy : 0 < y) (hN : N * P = u32 * 18446744073709551616 + u10) (hu10 : u10 = d1 * 4294967296 + d0)
    (h21 : u21 = u32 * 4294967296 + d1 - q1 * Y) (ha : a = u21 * 4294967296 + d0 - q0 * Y) (a0 : 0 ≤ a) (a1 : a < Y) : q1 * 4294967296 + q0 = N / y ∧ a / P = N % y := by
  have e1 : N * P = (q1 * 4294967296 + q0) * Y + a := by
    rw [hN, hu10, ha, h21, Int.add_mul, Int.mul_assoc q1, Int.mul_comm 4294967296 Y, ← Int.mul_assoc]
    generalize q1 * Y = x
    generalize q0 * Y = z
    omega
  have e2 : N * P = (q1 * 4294967296 + q0) * y * P + a := by rw [e1, hY, Int.mul_assoc]
  generalize q1 * 4294967296 + q0 = q at *
  have e3 : a = (N - q * y) * P := by rw [Int.sub_mul, e2]; omega
  have e4 : a / P = N - q * y := by rw [e3]; exact Int.mul_ediv_cancel _ (Int.ne_of_gt hP)
  have e5 : 0 ≤ N - q * y := by
    rw [← e4]; exact Int.ediv_nonneg a0 (Int.le_of_lt hP)
  have e6 : N - q * y < y := by
    rw [hY] at a1
    rw [e3] at a1
    exact Int.lt_of_mul_lt_mul_right a1 (Int.le_of_lt hP)
  have := (Int.ediv_emod_unique (a := N) (b := y) (r := N - q * y) (q := q) hy).2 ⟨by rw [Int.mul_comm y q]; omega, e5, e6⟩
  exact ⟨this.1.symm, by rw [e4]; exact this.2.symm⟩
end Go.Proofs.YtjhfbnndapopgaaDoor.WM

/-
  Decimal numerals in blocks of digits.
-/
namespace Go.Proofs.YtjhfbnndapopgaaDoor.WM
open Go Go.RowKit Go.Lib

/-- The last k digits of r. -/
def pad : Nat → Nat → List UInt8
  | 0, _ => []
  | k + 1, r => pad k (r / 10) ++ [UInt8.ofNat (48 + r % 10)]
theorem pad_zero : ∀ k, pad k 0 = List.replicate k 48
  | 0 => rfl
  | k + 1 => by
    rw [pad, Nat.zero_div, pad_zero k, List.replicate_succ']
    rfl
theorem pad_digits : ∀ (k r : Nat), r < 10 ^ (k + 1) → pad (k + 1) r = List.replicate (k + 1 - nDigits r) 48 ++ decDigits r
  | 0, r, h => by
    have h1 : r < 10 := by simpa using h
    rw [nDigits_small h1, decDigits_one h1, pad, pad, Nat.mod_eq_of_lt h1]; rfl
  | k + 1, r, h => by
    rw [pad]
    by_cases h1 : r < 10
    · rw [nDigits_small h1, decDigits_one h1, Nat.mod_eq_of_lt h1, Nat.div_eq_of_lt h1, pad_zero]
      rfl
    · rw [pad_digits k (r / 10) (by rw [Nat.pow_succ] at h; omega), nDigits_big h1]
      conv => rhs; rw [decDigits, dif_neg h1]
      rw [List.append_assoc, show k + 1 - nDigits (r / 10) = k + 1 + 1 - (nDigits (r / 10) + 1) by omega]
theorem digits_block : ∀ (k q r : Nat), 0 < q → r < 10 ^ k → decDigits (q * 10 ^ k + r) = decDigits q ++ pad k r
  | 0, q, r, _, h => by
    have h0 : r = 0 := by simpa using h
    subst h0
    simp [pad]
  | k + 1, q, r, hq, h => by
    have hp : 0 < 10 ^ k := Nat.pow_pos (by decide)
    have e : q * 10 ^ (k + 1) = q * 10 ^ k * 10 := by rw [Nat.pow_succ, Nat.mul_assoc]
    have hb : 1 ≤ q * 10 ^ k := Nat.mul_pos hq hp
    rw [pad, e, decDigits, dif_neg (by omega), show (q * 10 ^ k * 10 + r) / 10 = q * 10 ^ k + r / 10 by omega, show (q * 10 ^ k * 10 + r) % 10 = r % 10 by omega,
      digits_block k q (r / 10) hq (by rw [Nat.pow_succ] at h; omega), List.append_assoc]
theorem digits_19 (v : Nat) (h : 10000000000000000000 ≤ v) : decDigits v = decDigits (v / 10000000000000000000) ++ List.replicate (19 - nDigits (v % 10000000000000000000)) 48 ++ decDigits (v % 10000000000000000000) := by
  have e10 : (10 : Nat) ^ 19 = 10000000000000000000 := by decide
  have hr : v % 10000000000000000000 < 10 ^ 19 := by rw [e10]; omega
  have := digits_block 19 (v / 10000000000000000000) (v % 10000000000000000000) (by omega) hr
  rw [pad_digits 18 _ hr, e10] at this
  rw [List.append_assoc, ← this]
  congr 1
  omega
theorem nDigits_le : ∀ (k u : Nat), u < 10 ^ (k + 1) → nDigits u ≤ k + 1
  | 0, u, h => by
    have h1 : u < 10 := by simpa using h
    rw [nDigits_small h1]; omega
  | k + 1, u, h => by
    by_cases h1 : u < 10
    · rw [nDigits_small h1]; omega
    · rw [nDigits_big h1]
      have := nDigits_le k (u / 10) (by rw [Nat.pow_succ] at h; omega)
      omega
theorem nDigits_le19 (r : Nat) (h : r < 10000000000000000000) : 1 ≤ nDigits r ∧ nDigits r ≤ 19 :=
  ⟨nDigits_pos r, nDigits_le 18 r (by have e10 : (10 : Nat) ^ (18 + 1) = 10000000000000000000 := by decide
                                      omega)⟩
theorem nDigits_le39 (q : Nat) (h : q < 340282366920938463463374607431768211456) : nDigits q ≤ 39 :=
  nDigits_le 38 q (by have e10 : (10 : Nat) ^ (38 + 1) = 1000000000000000000000000000000000000000 := by decide
                      omega)
theorem repeat_one (n : Nat) : repeatL [48] n = List.replicate n 48 := by
  induction n with
  | zero => rfl
  | succ n ih => rw [repeatL, ih, List.replicate_succ]; rfl
end Go.Proofs.YtjhfbnndapopgaaDoor.WM

/-
  Reading decimal digits: values of digit strings, plain.
-/
namespace Go.Proofs.YtjhfbnndapopgaaDoor.WM
open Go Go.RowKit Go.Lib

def dig (c : UInt8) : Bool := decide (48 ≤ (c.toNat : Int) ∧ (c.toNat : Int) ≤ 57)
def allDig (l : List UInt8) : Bool := l.all dig
/-- The value of a string of digits, behind a value a. -/
def dvalA (a : Nat) (l : List UInt8) : Nat := l.foldl (fun a c => a * 10 + (c.toNat - 48)) a
def dval (l : List UInt8) : Nat := dvalA 0 l
theorem dvalA_snoc (a : Nat) (l : List UInt8) (c : UInt8) : dvalA a (l ++ [c]) = dvalA a l * 10 + (c.toNat - 48) := by simp [dvalA]
theorem dvalA_app (a : Nat) (l m : List UInt8) : dvalA a (l ++ m) = dvalA (dvalA a l) m := by simp [dvalA]
theorem dvalA_eq (l : List UInt8) : ∀ a, dvalA a l = a * 10 ^ l.length + dval l := by
  induction l with
  | nil => intro a; simp [dvalA, dval]
  | cons c l ih =>
    intro a
    have e1 : dvalA a (c :: l) = dvalA (a * 10 + (c.toNat - 48)) l := rfl
    have e2 : dval (c :: l) = dvalA (0 * 10 + (c.toNat - 48)) l := rfl
    rw [e1, e2, ih, ih (0 * 10 + _), List.length_cons, Nat.pow_succ, Nat.add_mul, Nat.mul_assoc, Nat.mul_comm 10, Nat.add_assoc]
    simp
theorem dval_app (l m : List UInt8) : dval (l ++ m) = dval l * 10 ^ m.length + dval m := by
  unfold dval; rw [dvalA_app, dvalA_eq]; rfl
theorem dval_snoc (l : List UInt8) (c : UInt8) : dval (l ++ [c]) = dval l * 10 + (c.toNat - 48) := dvalA_snoc 0 l c
theorem dvalA_lt (l : List UInt8) : ∀ a, allDig l = true → dvalA a l < (a + 1) * 10 ^ l.length := by
  induction l with
  | nil => intro a _; simp [dvalA]
  | cons c l ih =>
    intro a h
    simp only [allDig, List.all_cons, Bool.and_eq_true, dig, decide_eq_true_eq] at h
    have h1 := ih (a * 10 + (c.toNat - 48)) h.2
    have h2 : (a * 10 + (c.toNat - 48) + 1) * 10 ^ l.length ≤ ((a + 1) * 10) * 10 ^ l.length := Nat.mul_le_mul_right _ (by omega)
    have e1 : dvalA a (c :: l) = dvalA (a * 10 + (c.toNat - 48)) l := rfl
    rw [e1, List.length_cons, Nat.pow_succ, Nat.mul_comm (10 ^ l.length) 10, ← Nat.mul_assoc]
    omega
theorem dval_lt (l : List UInt8) (h : allDig l = true) : dval l < 10 ^ l.length := by
  have := dvalA_lt l 0 h
  rw [Nat.zero_add, Nat.one_mul] at this
  exact this
theorem allDig_snoc (l : List UInt8) (c : UInt8) : allDig (l ++ [c]) = (allDig l && dig c) := by simp [allDig]
theorem take_snoc (s : ByteArray) (k : Nat) (h : k < s.size) : s.data.toList.take (k + 1) = s.data.toList.take k ++ [s[k]] := by
  rw [List.take_succ_eq_append_getElem (by simpa using h)]; rfl
theorem drop_take_snoc (s : ByteArray) (k j : Nat) (hk : k ≤ j) (h : j < s.size) : (s.data.toList.take (j + 1)).drop k = (s.data.toList.take j).drop k ++ [s[j]] := by
  rw [take_snoc s j h, List.drop_append_of_le_length]
  have hl : s.data.toList.length = s.size := by rw [Array.length_toList]; rfl
  rw [List.length_take]; omega
theorem allDig_take (l : List UInt8) (j : Nat) (h : allDig l = true) : allDig (l.take j) = true := by
  unfold allDig at *
  rw [List.all_eq_true] at *
  intro x hx
  exact h x (List.mem_of_mem_take hx)
/-- What readDigits finds. -/
def rdErr (l : List UInt8) : Int := if allDig l then (if fitsM (dval l : Int) then 0 else 6) else 2
def rdVal (l : List UInt8) : Int := if rdErr l = 0 then (dval l : Int) else 0
theorem rd_bad (s : ByteArray) (j : Nat) (h : j < s.size) (hd : dig s[j] = false) : rdErr s.data.toList = 2 ∧ rdVal s.data.toList = 0 := by
  have ha : allDig s.data.toList = false := by
    cases h' : allDig s.data.toList
    · rfl
    · have := allDig_take _ (j + 1) h'
      rw [take_snoc s j h, allDig_snoc, hd, Bool.and_false] at this
      cases this
  have e : rdErr s.data.toList = 2 := by simp [rdErr, ha]
  exact ⟨e, by simp [rdVal, e]⟩
theorem rd_ok (l : List UInt8) (ha : allDig l = true) (hf : fitsM (dval l : Int) = true) : rdErr l = 0 ∧ rdVal l = dval l := by
  have e : rdErr l = 0 := by simp [rdErr, ha, hf]
  exact ⟨e, by simp [rdVal, e]⟩
theorem rd_over (l : List UInt8) (ha : allDig l = true) (hf : fitsM (dval l : Int) = false) : rdErr l = 6 ∧ rdVal l = 0 := by
  have e : rdErr l = 6 := by simp [rdErr, ha, hf]
  exact ⟨e, by simp [rdVal, e]⟩
theorem fits_mono {a b : Nat} (h : a ≤ b) (hf : fitsM (a : Int) = false) : fitsM (b : Int) = false := by
  simp only [fitsM, decide_eq_false_iff_not] at *; omega
/-- One block more. -/
theorem block_step (l : List UInt8) (k j : Nat) (hk : k ≤ j) (hj : j ≤ l.length) : dval (l.take j) = dval (l.take k) * 10 ^ (j - k) + dval ((l.take j).drop k) := by
  have e : l.take j = l.take k ++ (l.take j).drop k := by
    have h1 : (l.take j).take k = l.take k := by rw [List.take_take, Nat.min_eq_left hk]
    rw [← h1, List.take_append_drop]
  have hl : ((l.take j).drop k).length = j - k := by rw [List.length_drop, List.length_take]; omega
  conv => lhs; rw [e, dval_app, hl]
theorem pow10_le {j : Nat} (h : j ≤ 19) : (10 : Nat) ^ j ≤ 10000000000000000000 := by
  have h2 : (10 : Nat) ^ j ≤ 10 ^ 19 := Nat.pow_le_pow_right (by decide) h
  have e10 : (10 : Nat) ^ 19 = 10000000000000000000 := by decide
  omega
theorem fits0 : fitsM 0 = true := by simp [fitsM]
theorem start0 (l : List UInt8) : fitsM (dval (l.take 0)) = true ∧ mH (keepM (dval (l.take 0))) = 0 ∧ mL (keepM (dval (l.take 0))) = 0 := by
  have e : ((dval (l.take 0) : Nat) : Int) = 0 := by rw [List.take_zero]; rfl
  rw [e, keepM_yes fits0]
  exact ⟨fits0, by unfold mH; omega, by unfold mL; omega⟩
theorem allDig_drop (l : List UInt8) (j : Nat) (h : allDig l = true) : allDig (l.drop j) = true := by
  unfold allDig at *
  rw [List.all_eq_true] at *
  intro x hx
  exact h x (List.mem_of_mem_drop hx)
theorem pow10_le18 {j : Nat} (h : j ≤ 18) : (10 : Nat) ^ j ≤ 1000000000000000000 := by
  have h2 : (10 : Nat) ^ j ≤ 10 ^ 18 := Nat.pow_le_pow_right (by decide) h
  have e10 : (10 : Nat) ^ 18 = 1000000000000000000 := by decide
  omega
end Go.Proofs.YtjhfbnndapopgaaDoor.WM

/-
  The plain arithmetic of the document's own answers for wide numbers.
-/
namespace Go.Proofs.YtjhfbnndapopgaaDoor.WM
open Go Go.RowKit

theorem ofInt_toNat (x : Int) (hx : U64 x) : ((BitVec.ofInt 64 x).toNat : Int) = x := by
  unfold U64 at hx
  rw [toNat_ofInt64]; omega
/-- The complement of a uint64. -/
theorem u64_not (x : Int) (hx : U64 x) : bits .xor .u64 IntKind.u64.max x = 18446744073709551615 - x := by
  have h : bits .xor .u64 IntKind.u64.max x = IntKind.u64.wrap ((BitVec.ofInt 64 IntKind.u64.max ^^^ BitVec.ofInt 64 x).toNat : Int) := rfl
  have e : BitVec.ofInt 64 IntKind.u64.max = BitVec.allOnes 64 := by decide
  rw [h, e, BitVec.allOnes_xor, BitVec.toNat_not, IntKind.wrap_u64]
  have h2 := ofInt_toNat x hx
  unfold U64 at hx
  omega
/-- Is the highest bit set? -/
theorem u64_top (x : Int) (hx : U64 x) : bits .and .u64 x 9223372036854775808 = if 9223372036854775808 ≤ x then 9223372036854775808 else 0 := by
  have h : bits .and .u64 x 9223372036854775808 = IntKind.u64.wrap ((BitVec.ofInt 64 x &&& BitVec.ofInt 64 9223372036854775808).toNat : Int) := rfl
  have e : BitVec.ofInt 64 9223372036854775808 = BitVec.twoPow 64 63 := by decide
  have h2 := ofInt_toNat x hx
  have hb : (BitVec.ofInt 64 x).getLsbD 63 = decide (9223372036854775808 ≤ x) := by
    have : (BitVec.ofInt 64 x).msb = (BitVec.ofInt 64 x).getLsbD 63 := by rw [BitVec.msb_eq_getLsbD_last]
    rw [← this, BitVec.msb_eq_decide]
    have e3 : (2 : Nat) ^ (64 - 1) = 9223372036854775808 := by decide
    rw [e3]
    congr 1
    apply propext
    constructor <;> intro h' <;> omega
  rw [h, e, BitVec.and_twoPow, hb, IntKind.wrap_u64]
  by_cases c : 9223372036854775808 ≤ x
  · rw [if_pos c, if_pos (by simpa using c)]
    decide
  · rw [if_neg c, if_neg (by simpa using c)]
    decide
/-- Magnitudes modulo 2^128. -/
def modM (v : Int) : Int := v % 340282366920938463463374607431768211456
theorem modM_fits {v : Int} (h0 : 0 ≤ v) (h : fitsM v = true) : modM v = v := by
  simp only [fitsM, decide_eq_true_eq] at h; unfold modM; omega
theorem modM_bd (v : Int) : 0 ≤ modM v ∧ modM v < 340282366920938463463374607431768211456 := by unfold modM; omega
theorem modM_U (v : Int) : U64 (mH (modM v)) ∧ U64 (mL (modM v)) := ⟨mH_U64 (modM_bd v).1 (modM_bd v).2, mL_U64 _⟩
theorem mag_bd {h l : Int} (hh : U64 h) (hl : U64 l) : 0 ≤ val h l ∧ val h l < 340282366920938463463374607431768211456 := by unfold val U64 at *; omega
end Go.Proofs.YtjhfbnndapopgaaDoor.WM

/-
  The rounds of the document's own multiplication and division, plain.
-/
namespace Go.Proofs.YtjhfbnndapopgaaDoor.WM
open Go Go.RowKit

theorem fitsM_iff (v : Int) : fitsM v = true ↔ v < 340282366920938463463374607431768211456 := by simp only [fitsM, decide_eq_true_eq]
theorem modM_mag (v : Int) : val (mH (modM v)) (mL (modM v)) = modM v := val_mag _
theorem fits_mono' {a b : Int} (h : a ≤ b) (hf : fitsM b = true) : fitsM a = true := by
  simp only [fitsM, decide_eq_true_eq] at *; omega
theorem modM_add (a b : Int) : modM (modM a + b) = modM (a + b) := by unfold modM; omega
theorem modM_two (a : Int) : modM (modM a + modM a) = modM (2 * a) := by unfold modM; omega
/-- Doubling: is it still exact? -/
theorem fits_two {p : Int} (h0 : 0 ≤ p) : (fitsM p && fitsM (modM p + modM p)) = fitsM (2 * p) := by
  rw [Bool.eq_iff_iff, Bool.and_eq_true, fitsM_iff, fitsM_iff, fitsM_iff]
  unfold modM
  omega
theorem fits_more {p m : Int} (h0 : 0 ≤ p) (h1 : 0 ≤ m) : (fitsM p && fitsM (modM p + m)) = fitsM (p + m) := by
  rw [Bool.eq_iff_iff, Bool.and_eq_true, fitsM_iff, fitsM_iff, fitsM_iff]
  unfold modM
  omega
/-- A bit of the factor: n, doubled modulo 2^64. -/
theorem shl_one {n : Int} (hn : U64 n) : (n * 2) % 18446744073709551616 = if 9223372036854775808 ≤ n then 2 * n - 18446744073709551616 else 2 * n := by
  unfold U64 at hn; split <;> omega
theorem times_bit {m q n t : Int} (h : q * 18446744073709551616 + n = t) :
    (2 * q + 1) * 18446744073709551616 + (2 * n - 18446744073709551616) = 2 * t ∧ m * (2 * q + 1) = 2 * (m * q) + m := by
  refine ⟨by omega, ?_⟩
  rw [Int.mul_add, Int.mul_one, Int.mul_left_comm]
theorem times_nobit {m q n t : Int} (h : q * 18446744073709551616 + n = t) :
    (2 * q) * 18446744073709551616 + (2 * n) = 2 * t ∧ m * (2 * q) = 2 * (m * q) := by
  refine ⟨by omega, ?_⟩
  rw [Int.mul_left_comm]
theorem pow_step (n : Int) (k : Nat) : n * 2 ^ (k + 1) = 2 * (n * 2 ^ k) := by
  rw [Int.pow_succ, ← Int.mul_assoc]; omega
theorem times_end {q n N : Int} (h : q * 18446744073709551616 + n = N * 2 ^ 64) (hn : U64 n) : q = N := by
  have e : (2 : Int) ^ 64 = 18446744073709551616 := by decide
  rw [e] at h
  unfold U64 at hn
  omega
/-- Division, bit by bit: P is what has been read of the number M, m what is left of it, q and r its quotient and remainder. -/
structure DivAt (M n : Int) (k : Nat) (m q r : Int) : Prop where
  read : ∃ P : Int, M * 2 ^ k = P * 340282366920938463463374607431768211456 + m ∧ q * n + r = P ∧ P < 2 ^ k ∧ 0 ≤ P
  m0 : 0 ≤ m ∧ m < 340282366920938463463374607431768211456
  r0 : 0 ≤ r ∧ r < n
  q0 : 0 ≤ q
theorem div_at_start {M n : Int} (hM : 0 ≤ M ∧ M < 340282366920938463463374607431768211456) (hn : 1 ≤ n) : DivAt M n 0 M 0 0 :=
  ⟨⟨0, by simp, by simp, by simp, by omega⟩, hM, by omega, by omega⟩
theorem div_at_q {M n : Int} {k : Nat} {m q r : Int} (h : DivAt M n k m q r) (hn : 1 ≤ n) (hk : k < 128) : q < 170141183460469231731687303715884105728 := by
  obtain ⟨P, _, hq, hP, hP0⟩ := h.read
  have h1 : q * 1 ≤ q * n := Int.mul_le_mul_of_nonneg_left hn h.q0
  have h2 : (2 : Int) ^ k ≤ 2 ^ 127 := by
    have : (2 : Nat) ^ k ≤ 2 ^ 127 := Nat.pow_le_pow_right (by decide) (by omega)
    exact_mod_cast this
  have e : (2 : Int) ^ 127 = 170141183460469231731687303715884105728 := by decide
  have := h.r0
  omega
theorem div_at_end {M n m q r : Int} (h : DivAt M n 128 m q r) : q = M / n ∧ r = M % n := by
  obtain ⟨P, h1, h2, _, _⟩ := h.read
  have e : (2 : Int) ^ 128 = 340282366920938463463374607431768211456 := by decide
  rw [e] at h1
  have hm := h.m0
  have hP : P = M := by omega
  rw [hP] at h2
  have hr := h.r0
  have := (Int.ediv_emod_unique (a := M) (b := n) (r := r) (q := q) (by omega)).2 ⟨by rw [Int.mul_comm]; omega, by omega, by omega⟩
  exact ⟨this.1.symm, this.2.symm⟩
/-- One round. b: the highest bit of m; the quotient gets a bit if the divisor fits. -/
theorem div_at_step {M n : Int} {k : Nat} {m q r : Int} (h : DivAt M n k m q r) (b : Int) (hb : b = if 170141183460469231731687303715884105728 ≤ m then 1 else 0) :
    (2 * r + b < n → DivAt M n (k + 1) (modM (2 * m)) (2 * q) (2 * r + b)) ∧ (n ≤ 2 * r + b → DivAt M n (k + 1) (modM (2 * m)) (2 * q + 1) (2 * r + b - n)) := by
  obtain ⟨P, h1, h2, h3, h4⟩ := h.read
  have hm := h.m0
  have hr := h.r0
  have hq := h.q0
  have hb01 : b = 0 ∨ b = 1 := by rw [hb]; split <;> simp
  have e1 : M * 2 ^ (k + 1) = (2 * P + b) * 340282366920938463463374607431768211456 + modM (2 * m) := by
    rw [pow_step, h1]
    unfold modM
    rw [hb]; split <;> omega
  have e2 : (2 : Int) ^ (k + 1) = 2 * 2 ^ k := by rw [Int.pow_succ]; omega
  have e3 : (2 * q) * n = 2 * (q * n) := by rw [Int.mul_assoc]
  have e4 : (2 * q + 1) * n = 2 * (q * n) + n := by rw [Int.add_mul, Int.one_mul, Int.mul_assoc]
  refine ⟨fun hlt => ⟨⟨2 * P + b, e1, ?_, ?_, ?_⟩, modM_bd _, by omega, by omega⟩, fun hge => ⟨⟨2 * P + b, e1, ?_, ?_, ?_⟩, modM_bd _, by omega, by omega⟩⟩
  · rw [e3]; omega
  · rw [e2]; omega
  · omega
  · rw [e4]; omega
  · rw [e2]; omega
  · omega
end Go.Proofs.YtjhfbnndapopgaaDoor.WM

/-
  Rounding, plain: which one of the two integers next to a quotient is taken; the table of the modes.
-/
namespace Go.Proofs.YtjhfbnndapopgaaDoor.WM
open Go Go.RowKit

/-- Is the greater one taken? -/
def upB (neg odd : Bool) (r n m : Int) : Bool :=
  if m = 1 then neg else if m = 2 then !neg else if m = 3 then false else if m = 4 then true else if r ≠ n - r then decide (n - r < r) else if m = 5 then !neg else odd
def oddB (v : Int) : Bool := decide (v % 2 = 1)
/-- The rounded quotient. -/
def quoI (v n m : Int) : Int := if v % n = 0 then v / n else if upB (decide (v < 0)) (oddB (v / n)) (v % n) n m then v / n + 1 else v / n
/-- The program's table, cell by cell. -/
def choicesTab : List Int := [0, 0, 0, 0, 0, 0, 1, 1, 1, 0, 0, 0, 0, 0, 0, 1, 1, 1, 0, 0, 0, 0, 0, 0, 1, 1, 1, 1, 1, 1, 0, 0, 1, 0, 1, 1, 0, 2, 1, 0, 2, 1]
theorem u64_and1 (x : Int) (hx : U64 x) : bits .and .u64 x 1 = x % 2 := by
  have h : bits .and .u64 x 1 = IntKind.u64.wrap ((BitVec.ofInt 64 x &&& BitVec.ofInt 64 1).toNat : Int) := rfl
  have e : BitVec.ofInt 64 1 = BitVec.twoPow 64 0 := by decide
  have h2 : ((BitVec.ofInt 64 x).toNat : Int) = x := by unfold U64 at hx; rw [toNat_ofInt64]; omega
  have hb : (BitVec.ofInt 64 x).getLsbD 0 = decide ((BitVec.ofInt 64 x).toNat % 2 = 1) := by
    rw [BitVec.getLsbD, Nat.testBit_zero]
  rw [h, e, BitVec.and_twoPow, hb, IntKind.wrap_u64]
  by_cases c : (BitVec.ofInt 64 x).toNat % 2 = 1
  · rw [if_pos (by simpa using c)]
    have : ((BitVec.twoPow 64 0).toNat : Int) = 1 := by decide
    rw [this]; omega
  · rw [if_neg (by simpa using c)]
    have : ((0#64).toNat : Int) = 0 := by decide
    rw [this]; omega
theorem div_neg_iff {v n : Int} (hn : 1 ≤ n) : v / n < 0 ↔ v < 0 := by
  constructor
  · intro h
    rcases Int.lt_or_le v 0 with c | c
    · exact c
    · have := Int.ediv_nonneg c (show 0 ≤ n by omega); omega
  · intro h; exact Int.ediv_neg_of_neg_of_pos h (by omega)
theorem q_bd {v n : Int} (hn : 1 ≤ n) (hv : inW v = true) (hr : v % n ≠ 0) : inW (v / n + 1) = true := by
  rw [inW_iff] at hv ⊢
  have e := Int.mul_ediv_add_emod v n
  have r0 := Int.emod_nonneg v (show n ≠ 0 by omega)
  have hn2 : 2 ≤ n := by
    rcases Int.lt_or_le n 2 with c | c
    · have : n = 1 := by omega
      subst this; rw [Int.emod_one] at hr; exact absurd rfl hr
    · exact c
  rcases Int.lt_or_le v 0 with c | c
  · have h1 : v / n < 0 := Int.ediv_neg_of_neg_of_pos c (by omega)
    have h3 : -170141183460469231731687303715884105728 ≤ v / n := by
      apply Int.le_ediv_of_mul_le (by omega)
      have : (-170141183460469231731687303715884105728 : Int) * n ≤ -170141183460469231731687303715884105728 * 1 := Int.mul_le_mul_of_nonpos_left (by decide) (by omega)
      omega
    omega
  · have h1 := Int.ediv_nonneg c (show 0 ≤ n by omega)
    have h2 : v / n * 2 ≤ v / n * n := Int.mul_le_mul_of_nonneg_left hn2 h1
    rw [Int.mul_comm n] at e
    omega
end Go.Proofs.YtjhfbnndapopgaaDoor.WM
