/-
  The document's own reading of a decimal form, plain.
-/
import Derived.Test.YtfapcllhcbedlaaDoorTextMath
namespace Go.Proofs.YtfapcllhcbedlaaDoor.WM
open Go Go.RowKit Go.Lib

/-- The value read, a sign skipped. -/
def pvA (a : Nat) (l : List UInt8) : Nat := l.foldl (fun a c => if c = 45 then a else a * 10 + (c.toNat - 48)) a
def pv (l : List UInt8) : Nat := pvA 0 l
theorem pv_snoc (l : List UInt8) (c : UInt8) : pv (l ++ [c]) = if c = 45 then pv l else pv l * 10 + (c.toNat - 48) := by simp [pv, pvA]
theorem pvA_digits (l : List UInt8) : ∀ a, allDig l = true → pvA a l = dvalA a l := by
  induction l with
  | nil => intro a _; rfl
  | cons c l ih =>
    intro a h
    simp only [allDig, List.all_cons, Bool.and_eq_true] at h
    have hc : c ≠ 45 := by intro e; rw [e, dig45] at h; exact absurd h.1 (by decide)
    show pvA (if c = 45 then a else a * 10 + (c.toNat - 48)) l = dvalA (a * 10 + (c.toNat - 48)) l
    rw [if_neg hc]
    exact ih _ h.2
theorem decB_cases (l : List UInt8) (h : decB l = true) : ∃ c t, l = c :: t ∧ (isNeg l = decide (c = 45)) ∧ l.all (fun c => c == 45 || dig c) = true ∧ pv l = dval (digs l) := by
  have hb := h
  rw [decB_eq, Bool.and_eq_true] at hb
  cases l with
  | nil => exact absurd h (by decide)
  | cons c t =>
    refine ⟨c, t, rfl, ?_, ?_, ?_⟩
    · unfold isNeg hasPrefix
      show ((45 : UInt8) == c && List.isPrefixOf [] t) = decide (c = 45)
      by_cases hc : c = 45
      · subst hc; rfl
      · have : ((45 : UInt8) == c) = false := by rw [beq_eq_false_iff_ne]; exact fun e => hc e.symm
        rw [this]; simp [hc]
    all_goals
      by_cases hc : c = 45
      · subst hc
        have hd : digs (45 :: t) = t := by
          unfold digs trimPrefix
          have hn' : hasPrefix (45 :: t) [45] = true := by
            unfold hasPrefix
            show ((45 : UInt8) == 45 && List.isPrefixOf [] t) = true
            rfl
          rw [if_pos hn']; rfl
        rw [hd] at hb
        first
          | (rw [hd]; exact pvA_digits t 0 hb.1)
          | (rw [List.all_cons]
             have h2 : t.all (fun c => c == 45 || dig c) = true := by
               have h3 := hb.1
               unfold allDig at h3
               rw [List.all_eq_true] at h3 ⊢
               intro x hx; rw [h3 x hx, Bool.or_true]
             rw [h2]; rfl)
      · have hd : digs (c :: t) = c :: t := by
          unfold digs trimPrefix
          have hn' : hasPrefix (c :: t) [45] = false := by
            unfold hasPrefix
            show ((45 : UInt8) == c && List.isPrefixOf [] t) = false
            have : ((45 : UInt8) == c) = false := by rw [beq_eq_false_iff_ne]; exact fun e => hc e.symm
            rw [this]; rfl
          rw [hn']; rfl
        rw [hd] at hb
        first
          | (rw [hd]; exact pvA_digits (c :: t) 0 hb.1)
          | (have h3 := hb.1
             unfold allDig at h3
             rw [List.all_eq_true] at h3 ⊢
             intro x hx; rw [h3 x hx, Bool.or_true])
theorem fits_ten {p : Int} (h0 : 0 ≤ p) : (fitsM p && fitsM (modM p * 10)) = fitsM (p * 10) := by
  rw [Bool.eq_iff_iff, Bool.and_eq_true, fitsM_iff, fitsM_iff, fitsM_iff]
  unfold modM
  omega
theorem modM_ten (p : Int) : modM (modM p * 10) = modM (p * 10) := by unfold modM; omega
end Go.Proofs.YtfapcllhcbedlaaDoor.WM
