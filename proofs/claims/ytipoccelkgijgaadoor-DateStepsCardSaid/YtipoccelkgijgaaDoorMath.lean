/-
  The plain arithmetic of wide numbers (128 bits): values, results, sign bits. No program in this text.
-/
import Derived.Laws.Bits64b
import Derived.WalkKit
namespace Go.Proofs.YtipoccelkgijgaaDoor.WM
open Go Go.RowKit

/-- The value of a wide number's two fields. -/
def val (h l : Int) : Int := h * 18446744073709551616 + l
/-- Is this the value of a wide number? -/
def inW (v : Int) : Bool := decide (-170141183460469231731687303715884105728 ≤ v ∧ v ≤ 170141183460469231731687303715884105727)
/-- The fields of the result of an operation whose exact result is v, and its error. -/
def wH (v : Int) : Int := if inW v then v / 18446744073709551616 else 0
def wL (v : Int) : Int := if inW v then v % 18446744073709551616 else 0
def wE (v : Int) : Int := if inW v then 0 else 6
def I64 (n : Int) : Prop := -9223372036854775808 ≤ n ∧ n ≤ 9223372036854775807
def U64 (n : Int) : Prop := 0 ≤ n ∧ n ≤ 18446744073709551615

theorem inW_iff (v : Int) : inW v = true ↔ (-170141183460469231731687303715884105728 ≤ v ∧ v ≤ 170141183460469231731687303715884105727) := by simp [inW]
theorem inW_not (v : Int) : inW v = false ↔ ¬ (-170141183460469231731687303715884105728 ≤ v ∧ v ≤ 170141183460469231731687303715884105727) := by simp [inW]
theorem inW_val {h l : Int} (hh : I64 h) (hl : U64 l) : inW (val h l) = true := by unfold I64 U64 at *; rw [inW_iff]; unfold val; omega
theorem wH_in {v : Int} (h : inW v = true) : wH v = v / 18446744073709551616 := by simp [wH, h]
theorem wL_in {v : Int} (h : inW v = true) : wL v = v % 18446744073709551616 := by simp [wL, h]
theorem wE_in {v : Int} (h : inW v = true) : wE v = 0 := by simp [wE, h]
theorem wH_out {v : Int} (h : inW v = false) : wH v = 0 := by simp [wH, h]
theorem wL_out {v : Int} (h : inW v = false) : wL v = 0 := by simp [wL, h]
theorem wE_out {v : Int} (h : inW v = false) : wE v = 6 := by simp [wE, h]
theorem wH_I64 (v : Int) : I64 (wH v) := by
  unfold I64
  cases h : inW v
  · rw [wH_out h]; omega
  · rw [wH_in h]; rw [inW_iff] at h; omega
theorem wL_U64 (v : Int) : U64 (wL v) := by
  unfold U64
  cases h : inW v
  · rw [wL_out h]; omega
  · rw [wL_in h]; omega
theorem val_w {v : Int} (h : inW v = true) : val (wH v) (wL v) = v := by rw [wH_in h, wL_in h]; unfold val; omega
theorem wH_val {h l : Int} (hh : I64 h) (hl : U64 l) : wH (val h l) = h := by
  rw [wH_in (inW_val hh hl)]; unfold val U64 at *; omega
theorem wL_val {h l : Int} (hh : I64 h) (hl : U64 l) : wL (val h l) = l := by
  rw [wL_in (inW_val hh hl)]; unfold val U64 at *; omega
theorem val_inj {h l h' l' : Int} (hl : U64 l) (hl' : U64 l') (e : val h l = val h' l') : h = h' ∧ l = l' := by
  unfold val U64 at *; omega

theorem toNat_ofInt64 (x : Int) : ((BitVec.ofInt 64 x).toNat : Int) = x % 18446744073709551616 := by
  rw [BitVec.toNat_ofInt]
  have : (((2 ^ 64 : Nat) : Int)) = 18446744073709551616 := by decide
  rw [this]; omega
theorem msb_ofInt (x : Int) (hx : I64 x) : (BitVec.ofInt 64 x).msb = decide (x < 0) := by
  unfold I64 at hx
  have h := toNat_ofInt64 x
  rw [BitVec.msb_eq_decide]
  have e : (2 : Nat) ^ (64 - 1) = 9223372036854775808 := by decide
  rw [e]
  congr 1
  apply propext
  constructor
  · intro h'; omega
  · intro h'; omega
theorem wrap_msb (b : BitVec 64) : IntKind.i64.wrap (b.toNat : Int) < 0 ↔ b.msb = true := by
  have hb := b.isLt
  rw [IntKind.wrap_i64, BitVec.msb_eq_decide]
  have e : (2 : Nat) ^ (64 - 1) = 9223372036854775808 := by decide
  rw [e]
  have e2 : (2 : Nat) ^ 64 = 18446744073709551616 := by decide
  rw [e2] at hb
  simp only [decide_eq_true_eq]
  omega
theorem bits_I64 (op : BinOp) (x y : Int) : I64 (bits op .i64 x y) := by
  unfold I64 bits
  have h : ∀ n : Int, -9223372036854775808 ≤ IntKind.i64.wrap n ∧ IntKind.i64.wrap n ≤ 9223372036854775807 := fun n => by rw [IntKind.wrap_i64]; omega
  split <;> exact h _
theorem and_neg (x y : Int) (hx : I64 x) (hy : I64 y) : bits .and .i64 x y < 0 ↔ (x < 0 ∧ y < 0) := by
  have h : bits .and .i64 x y = IntKind.i64.wrap ((BitVec.ofInt 64 x &&& BitVec.ofInt 64 y).toNat : Int) := rfl
  rw [h, wrap_msb, BitVec.msb_and, msb_ofInt x hx, msb_ofInt y hy]
  simp
theorem xor_neg (x y : Int) (hx : I64 x) (hy : I64 y) : bits .xor .i64 x y < 0 ↔ ((x < 0 ∧ 0 ≤ y) ∨ (0 ≤ x ∧ y < 0)) := by
  have h : bits .xor .i64 x y = IntKind.i64.wrap ((BitVec.ofInt 64 x ^^^ BitVec.ofInt 64 y).toNat : Int) := rfl
  rw [h, wrap_msb, BitVec.msb_xor, msb_ofInt x hx, msb_ofInt y hy]
  by_cases a : x < 0 <;> by_cases b : y < 0 <;> simp [a, b] <;> omega
theorem wrap64_I64 (n : Int) : I64 (wrap64 n) := by unfold I64 wrap64; omega

/-- Add's overflow test. -/
theorem add_test {ha la hb lb : Int} (h1 : I64 ha) (h2 : U64 la) (h3 : I64 hb) (h4 : U64 lb) :
    (bits .and .i64 (bits .xor .i64 ha (wrap64 (wrap64 (ha + hb) + wrap64 ((la + lb) / 18446744073709551616)))) (bits .xor .i64 hb (wrap64 (wrap64 (ha + hb) + wrap64 ((la + lb) / 18446744073709551616)))) < 0) ↔ inW (val ha la + val hb lb) = false := by
  have hw := wrap64_I64 (wrap64 (ha + hb) + wrap64 ((la + lb) / 18446744073709551616))
  rw [and_neg _ _ (bits_I64 _ _ _) (bits_I64 _ _ _), xor_neg _ _ h1 hw, xor_neg _ _ h3 hw, inW_not]
  unfold I64 U64 val wrap64 at *
  omega
theorem add_hi {ha la hb lb : Int} (_h1 : I64 ha) (h2 : U64 la) (_h3 : I64 hb) (h4 : U64 lb) (h : inW (val ha la + val hb lb) = true) :
    wrap64 (wrap64 (ha + hb) + wrap64 ((la + lb) / 18446744073709551616)) = wH (val ha la + val hb lb) ∧ (la + lb) % 18446744073709551616 = wL (val ha la + val hb lb) := by
  rw [wH_in h, wL_in h]
  rw [inW_iff] at h
  unfold I64 U64 val wrap64 at *
  omega
/-- Sub's overflow test. -/
theorem sub_test {ha la hb lb : Int} (h1 : I64 ha) (h2 : U64 la) (h3 : I64 hb) (h4 : U64 lb) :
    (bits .and .i64 (bits .xor .i64 ha hb) (bits .xor .i64 ha (wrap64 (wrap64 (ha - hb) - wrap64 (if la < lb then 1 else 0)))) < 0) ↔ inW (val ha la - val hb lb) = false := by
  have hw := wrap64_I64 (wrap64 (ha - hb) - wrap64 (if la < lb then 1 else 0))
  rw [and_neg _ _ (bits_I64 _ _ _) (bits_I64 _ _ _), xor_neg _ _ h1 h3, xor_neg _ _ h1 hw, inW_not]
  unfold I64 U64 val wrap64 at *
  split <;> omega
theorem sub_hi {ha la hb lb : Int} (_h1 : I64 ha) (h2 : U64 la) (_h3 : I64 hb) (h4 : U64 lb) (h : inW (val ha la - val hb lb) = true) :
    wrap64 (wrap64 (ha - hb) - wrap64 (if la < lb then 1 else 0)) = wH (val ha la - val hb lb) ∧ (la - lb) % 18446744073709551616 = wL (val ha la - val hb lb) := by
  rw [wH_in h, wL_in h]
  rw [inW_iff] at h
  unfold I64 U64 val wrap64 at *
  constructor
  · split <;> omega
  · omega
/-- The two halves of a magnitude, and its opposite modulo 2^128. -/
def mH (v : Int) : Int := v / 18446744073709551616
def mL (v : Int) : Int := v % 18446744073709551616
def negM (v : Int) : Int := (-v) % 340282366920938463463374607431768211456
theorem mag_val {h l : Int} (hl : U64 l) : mH (val h l) = h ∧ mL (val h l) = l := by unfold mH mL val U64 at *; omega
theorem val_mag (v : Int) : val (mH v) (mL v) = v := by unfold mH mL val; omega
theorem mL_U64 (v : Int) : U64 (mL v) := by unfold mL U64; omega
theorem mH_U64 {v : Int} (h0 : 0 ≤ v) (h1 : v < 340282366920938463463374607431768211456) : U64 (mH v) := by unfold mH U64; omega
theorem neg_eq {h l : Int} (hl : U64 l) : (-h - (if 0 < l + 0 then 1 else 0)) % 18446744073709551616 = mH (negM (val h l)) ∧ (-l) % 18446744073709551616 = mL (negM (val h l)) := by
  unfold mH mL negM val U64 at *
  split <;> omega
/-- The size of a number. -/
def absW (v : Int) : Int := if v < 0 then -v else v
theorem absW_U {h l : Int} (hh : I64 h) (hl : U64 l) : 0 ≤ absW (val h l) ∧ absW (val h l) ≤ 170141183460469231731687303715884105728 := by
  unfold absW val I64 U64 at *; split <;> omega
theorem split_pos {h l : Int} (hh : 0 ≤ h) (hh1 : I64 h) (hl : U64 l) : IntKind.u64.wrap h = mH (absW (val h l)) ∧ l = mL (absW (val h l)) := by
  rw [IntKind.wrap_u64]
  unfold absW mH mL val I64 U64 at *; split <;> omega
theorem split_neg {h l : Int} (hh : h < 0) (hh1 : I64 h) (hl : U64 l) : mH (negM (val (IntKind.u64.wrap h) l)) = mH (absW (val h l)) ∧ mL (negM (val (IntKind.u64.wrap h) l)) = mL (absW (val h l)) := by
  rw [IntKind.wrap_u64]
  unfold absW negM mH mL val I64 U64 at *; split <;> omega
theorem wrap_u64_U64 (n : Int) : U64 (IntKind.u64.wrap n) := by rw [IntKind.wrap_u64]; unfold U64; omega
/-- Of. -/
theorem of_eq {n : Int} (hn : I64 n) : n / 9223372036854775808 = wH n ∧ IntKind.u64.wrap n = wL n := by
  have h : inW n = true := by rw [inW_iff]; unfold I64 at hn; omega
  rw [wH_in h, wL_in h, IntKind.wrap_u64]
  unfold I64 at hn; omega
theorem inW_I64 {n : Int} (hn : I64 n) : inW n = true := by rw [inW_iff]; unfold I64 at hn; omega
/-- Cmp. -/
def cmpW (a b : Int) : Int := if a < b then -1 else if b < a then 1 else 0
theorem cmp_hi {ha la hb lb : Int} (h2 : U64 la) (h4 : U64 lb) (h : ha ≠ hb) : cmpW ha hb = cmpW (val ha la) (val hb lb) := by
  unfold cmpW val U64 at *
  split <;> split <;> (try split) <;> (try split) <;> omega
theorem cmp_lo {ha la lb : Int} : cmpW la lb = cmpW (val ha la) (val ha lb) := by
  unfold cmpW val
  split <;> split <;> (try split) <;> (try split) <;> omega
/-- Is this number an int? -/
def isInt (v : Int) : Bool := decide (-9223372036854775808 ≤ v ∧ v ≤ 9223372036854775807)
def toInt (v : Int) : Int := if isInt v then v else 0
theorem int_yes {h l : Int} (hh : I64 h) (hl : U64 l) (hi : isInt (val h l) = true) : wrap64 l = val h l ∧ wH (wrap64 l) = h ∧ wL (wrap64 l) = l := by
  have e : wrap64 l = val h l := by
    simp only [isInt, decide_eq_true_eq] at hi
    unfold wrap64 val I64 U64 at *; omega
  refine ⟨e, ?_, ?_⟩
  · rw [e, wH_val hh hl]
  · rw [e, wL_val hh hl]
theorem int_no {h l : Int} (_hh : I64 h) (hl : U64 l) (hi : isInt (val h l) = false) : ¬ wH (wrap64 l) = h ∨ (wH (wrap64 l) = h ∧ ¬ wL (wrap64 l) = l) := by
  have h1 := wrap64_I64 l
  obtain ⟨e1, e2⟩ := of_eq h1
  rw [← e1, ← e2, IntKind.wrap_u64]
  simp only [isInt, decide_eq_false_iff_not] at hi
  unfold wrap64 val I64 U64 at *; omega
/-- Is this a magnitude? What is returned where it is none is 0. -/
def fitsM (v : Int) : Bool := decide (v < 340282366920938463463374607431768211456)
def keepM (v : Int) : Int := if fitsM v then v else 0
theorem keepM_no {v : Int} (h : fitsM v = false) : keepM v = 0 := by simp [keepM, h]
theorem keepM_yes {v : Int} (h : fitsM v = true) : keepM v = v := by simp [keepM, h]
def signed (b : Bool) (v : Int) : Int := if b then -v else v
theorem join_out {h l : Int} {b : Bool} (hl : U64 l) (h1 : 9223372036854775808 ≤ h) (h2 : ¬ (b = true ∧ h = 9223372036854775808 ∧ l = 0)) : inW (signed b (val h l)) = false := by
  rw [inW_not]
  unfold signed val U64 at *
  cases b
  · rw [if_neg (by decide)]; omega
  · rw [if_pos rfl]; simp only [true_and] at h2; omega
theorem join_pos {h l : Int} (hl : U64 l) (h0 : 0 ≤ h) (h1 : h < 9223372036854775808) : inW (signed false (val h l)) = true ∧ wrap64 h = wH (signed false (val h l)) ∧ l = wL (signed false (val h l)) := by
  have e : signed false (val h l) = val h l := by unfold signed; rw [if_neg (by decide)]
  rw [e]
  have hi : I64 h := by unfold I64; omega
  rw [wH_val hi hl, wL_val hi hl]
  refine ⟨inW_val hi hl, ?_, rfl⟩
  unfold wrap64; omega
theorem join_neg {h l : Int} (hl : U64 l) (h0 : 0 ≤ h) (h1 : h < 9223372036854775808 ∨ h = 9223372036854775808 ∧ l = 0) : inW (signed true (val h l)) = true ∧ wrap64 (mH (negM (val h l))) = wH (signed true (val h l)) ∧ mL (negM (val h l)) = wL (signed true (val h l)) := by
  have e : signed true (val h l) = -(val h l) := by unfold signed; rw [if_pos rfl]
  have hi : inW (-(val h l)) = true := by rw [inW_iff]; unfold val U64 at *; omega
  rw [e, wH_in hi, wL_in hi]
  refine ⟨hi, ?_, ?_⟩
  · unfold wrap64 mH negM val U64 at *; omega
  · unfold mL negM val U64 at *; omega
theorem times_eq {h l f s : Int} (hA : 0 ≤ h * f) (hB : 0 ≤ l * f) (hs : U64 s) :
    (¬ h * f / 18446744073709551616 = 0 → fitsM (val h l * f + s) = false) ∧
    (¬ (h * f % 18446744073709551616 + l * f / 18446744073709551616 + (l * f % 18446744073709551616 + s) / 18446744073709551616) / 18446744073709551616 = 0 → fitsM (val h l * f + s) = false) ∧
    (h * f / 18446744073709551616 = 0 → (h * f % 18446744073709551616 + l * f / 18446744073709551616 + (l * f % 18446744073709551616 + s) / 18446744073709551616) / 18446744073709551616 = 0 →
      fitsM (val h l * f + s) = true ∧ (h * f % 18446744073709551616 + l * f / 18446744073709551616 + (l * f % 18446744073709551616 + s) / 18446744073709551616) % 18446744073709551616 = mH (keepM (val h l * f + s)) ∧ (l * f % 18446744073709551616 + s) % 18446744073709551616 = mL (keepM (val h l * f + s))) := by
  have e : val h l * f + s = (h * f) * 18446744073709551616 + l * f + s := by
    unfold val; rw [Int.add_mul, Int.mul_right_comm]
  rw [e]
  generalize h * f = A at *
  generalize l * f = B at *
  unfold U64 at hs
  refine ⟨fun h1 => ?_, fun h1 => ?_, fun h1 h2 => ?_⟩
  · simp only [fitsM, decide_eq_false_iff_not]; omega
  · simp only [fitsM, decide_eq_false_iff_not]; omega
  · have hf : fitsM (A * 18446744073709551616 + B + s) = true := by simp only [fitsM, decide_eq_true_eq]; omega
    refine ⟨hf, ?_, ?_⟩
    · unfold mH keepM; rw [if_pos hf]; omega
    · unfold mL keepM; rw [if_pos hf]; omega
end Go.Proofs.YtipoccelkgijgaaDoor.WM
