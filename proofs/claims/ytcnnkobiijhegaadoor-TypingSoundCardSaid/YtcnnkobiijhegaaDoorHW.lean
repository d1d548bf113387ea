/-
  Numbers as the document writes and reads them: contracts of its Int, Natural and TakeInt.
-/
import Derived.Test.YtcnnkobiijhegaaDoorTY
namespace Go.Proofs.YtcnnkobiijhegaaDoor
open Go Go.RowKit Go.Lib WM

theorem str_isEmpty (s : List UInt8) : (str s).toList.isEmpty = s.isEmpty := by rw [Lib.toList_data, str_list]
theorem ofInt_toNat (x : Int) (hx : 0 ≤ x ∧ x < 18446744073709551616) : ((BitVec.ofInt 64 x).toNat : Int) = x := by
  rw [BitVec.toNat_ofInt]; omega
/-- The complement of a uint64. -/
theorem u64_not (x : Int) (hx : 0 ≤ x ∧ x < 18446744073709551616) : bits .xor .u64 IntKind.u64.max x = 18446744073709551615 - x := by
  have h : bits .xor .u64 IntKind.u64.max x = IntKind.u64.wrap ((BitVec.ofInt 64 IntKind.u64.max ^^^ BitVec.ofInt 64 x).toNat : Int) := rfl
  have e : BitVec.ofInt 64 IntKind.u64.max = BitVec.allOnes 64 := by decide
  rw [h, e, BitVec.allOnes_xor, BitVec.toNat_not, IntKind.wrap_u64]
  have h2 := ofInt_toNat x hx
  omega
theorem dig_not (s : ByteArray) (k : Nat) (h : k < s.size) (hd : dig s[k] = false) : allDig s.data.toList = false := by
  cases h' : allDig s.data.toList
  · rfl
  · unfold allDig at h'
    rw [List.all_eq_true] at h'
    have h2 : s[k] ∈ s.data.toList := by
      have : s[k] = s.data.toList[k]'(by rw [size_list]; exact h) := rfl
      rw [this]; exact List.getElem_mem _
    rw [h' _ h2] at hd; cases hd
theorem dig_at (s : ByteArray) (k : Nat) (h : k < s.size) (ha : allDig s.data.toList = true) : 48 ≤ (s[k].toNat : Int) ∧ (s[k].toNat : Int) ≤ 57 := by
  unfold allDig at ha
  rw [List.all_eq_true] at ha
  have h2 : s[k] ∈ s.data.toList := by
    have : s[k] = s.data.toList[k]'(by rw [size_list]; exact h) := rfl
    rw [this]; exact List.getElem_mem _
  simpa [dig] using ha _ h2
theorem allDig_next (s : ByteArray) (k : Nat) (h : k < s.size) (ha : allDig (s.data.toList.take k) = true) (hd : dig s[k] = true) : allDig (s.data.toList.take (k + 1)) = true := by
  rw [WM.take_snoc s k h, allDig_snoc, ha, hd]; rfl
/-- The three forms of what stands behind a sign. -/
theorem forms (U : ByteArray) (G : Bool) : (U = ⟨#[]⟩ ∧ shortB U.data.toList G = false) ∨ (U = ⟨#[48]⟩ ∧ (shortB U.data.toList G && allDig U.data.toList) = !G) ∨
    (∃ h : 0 < U.size, U[0] = 48 ∧ (¬ U.toList = [] ∧ ¬ U.toList = [48]) ∧ shortB U.data.toList G = false) ∨ (∃ h : 0 < U.size, U[0] ≠ 48 ∧ (¬ U.toList = [] ∧ ¬ U.toList = [48]) ∧ shortB U.data.toList G = true) := by
  obtain ⟨⟨l⟩⟩ := U
  cases l with
  | nil => exact Or.inl ⟨rfl, rfl⟩
  | cons c t =>
    have h0 : 0 < (ByteArray.mk ⟨c :: t⟩).size := by simp [ByteArray.size]
    by_cases hc : c = 48
    · subst hc
      cases t with
      | nil => exact Or.inr (Or.inl ⟨rfl, by cases G <;> rfl⟩)
      | cons d t => exact Or.inr (Or.inr (Or.inl ⟨h0, rfl, by rw [Lib.toList_data]; simp, by cases G <;> rfl⟩))
    · refine Or.inr (Or.inr (Or.inr ⟨h0, hc, by rw [Lib.toList_data]; simp [hc], ?_⟩))
      show ((c != 48) || (t.isEmpty && !G)) = true
      have : (c != 48) = true := by rw [bne_iff_ne]; exact hc
      rw [this]; rfl
theorem neg_forms (s : ByteArray) : (s = ⟨#[]⟩ ∧ isNeg s.data.toList = false) ∨ (∃ h : 0 < s.size, (s[0].toNat : Int) = 45 ∧ isNeg s.data.toList = true) ∨ (∃ h : 0 < s.size, ¬ (s[0].toNat : Int) = 45 ∧ isNeg s.data.toList = false) := by
  obtain ⟨⟨l⟩⟩ := s
  cases l with
  | nil => exact Or.inl ⟨rfl, rfl⟩
  | cons c t =>
    have h0 : 0 < (ByteArray.mk ⟨c :: t⟩).size := by simp [ByteArray.size]
    by_cases hc : c = 45
    · subst hc
      exact Or.inr (Or.inl ⟨h0, rfl, (neg_cons t).1⟩)
    · refine Or.inr (Or.inr ⟨h0, ?_, ?_⟩)
      · intro e; exact hc (UInt8.toNat_inj.1 (by have : (45 : UInt8).toNat = 45 := rfl; have h1 : (ByteArray.mk ⟨c :: t⟩)[0] = c := rfl; rw [h1] at e; omega))
      · show ((45 : UInt8) == c && List.isPrefixOf [] t) = false
        have : ((45 : UInt8) == c) = false := by rw [beq_eq_false_iff_ne]; exact fun e => hc e.symm
        rw [this]; rfl
theorem neg_cut (s : ByteArray) (h : isNeg s.data.toList = true) : s.extract 1 s.size = str (digs s.data.toList) := by
  rw [str_cut, ← size_list, List.take_length]
  conv => lhs; rw [neg_yes _ h]
  rfl
end Go.Proofs.YtcnnkobiijhegaaDoor
