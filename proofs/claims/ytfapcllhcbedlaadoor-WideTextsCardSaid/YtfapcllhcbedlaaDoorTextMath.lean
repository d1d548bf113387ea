/-
  The document's own decimal forms, plain: written digit by digit, examined, read.
-/
import Derived.Test.YtfapcllhcbedlaaDoorMathR
import Derived.Test.YtfapcllhcbedlaaDoorRefMathB
namespace Go.Proofs.YtfapcllhcbedlaaDoor.WM
open Go Go.RowKit Go.Lib

/-- What has been written of M when m is left: the digits s. -/
def TextAt (M m : Nat) (s : List UInt8) : Prop := (decDigits m ++ s = decDigits M ∧ (1 ≤ m ∨ s = [])) ∨ (m = 0 ∧ s = decDigits M)
theorem text_start (M : Nat) : TextAt M M [] := Or.inl ⟨by simp, Or.inr rfl⟩
theorem dec_ne (M : Nat) : decDigits M ≠ [] := by
  intro h
  have := decDigits_length M
  rw [h] at this
  have := nDigits_pos M
  simp at *; omega
/-- Goes the loop on? -/
theorem text_more {M m : Nat} {s : List UInt8} (h : TextAt M m s) : (s = [] ∨ 1 ≤ m) ∨ (s ≠ [] ∧ m = 0 ∧ s = decDigits M) := by
  rcases h with ⟨h1, h2 | h2⟩ | ⟨h1, h2⟩
  · exact Or.inl (Or.inr h2)
  · exact Or.inl (Or.inl h2)
  · exact Or.inr ⟨by rw [h2]; exact dec_ne M, h1, h2⟩
theorem text_step {M m : Nat} {s : List UInt8} (h : TextAt M m s) (hg : s = [] ∨ 1 ≤ m) : TextAt M (m / 10) (UInt8.ofNat (48 + m % 10) :: s) := by
  rcases h with ⟨h1, h2⟩ | ⟨h1, h2⟩
  · by_cases hm : m < 10
    · refine Or.inr ⟨Nat.div_eq_of_lt hm, ?_⟩
      rw [dec_small hm] at h1
      rw [Nat.mod_eq_of_lt hm, ← h1]; rfl
    · refine Or.inl ⟨?_, Or.inl (by omega)⟩
      rw [dec_big hm] at h1
      rw [← h1, List.append_assoc]; rfl
  · rcases hg with hg | hg
    · exact absurd (h2.symm.trans hg) (dec_ne M)
    · omega
theorem text_len {M m : Nat} {s : List UInt8} (h : TextAt M m s) (hM : M < 340282366920938463463374607431768211456) : s.length ≤ 39 := by
  have hd : (decDigits M).length ≤ 39 := by rw [decDigits_length]; exact nDigits_le39 M hM
  rcases h with ⟨h1, _⟩ | ⟨_, h2⟩
  · have := congrArg List.length h1
    rw [List.length_append] at this
    omega
  · rw [h2]; exact hd
theorem text_meas {m : Nat} : (if m / 10 = 0 then 0 else m / 10 + 1) < m + 1 := by
  split <;> omega
/-- One digit out of the ten. -/
theorem ten_piece (r : Nat) (h : r < 10) : (⟨#[48, 49, 50, 51, 52, 53, 54, 55, 56, 57]⟩ : ByteArray).extract r (r + 1) = ⟨#[UInt8.ofNat (48 + r)]⟩ := by
  have key : ∀ r : Fin 10, (⟨#[48, 49, 50, 51, 52, 53, 54, 55, 56, 57]⟩ : ByteArray).extract r.val (r.val + 1) = ⟨#[UInt8.ofNat (48 + r.val)]⟩ := by decide
  exact key ⟨r, h⟩
/-- Is it a decimal form? -/
def decB : List UInt8 → Bool
  | [] => false
  | c :: t => if c = 45 then (t != [48]) && decB t && (t.headD 0 != 45) else allDig (c :: t) && ((c :: t) == [48] || c != 48)
theorem decB_45 (t : List UInt8) : decB (45 :: t) = ((t != [48]) && decB t && (t.headD 0 != 45)) := by rw [decB, if_pos rfl]
theorem decB_no (c : UInt8) (t : List UInt8) (h : c ≠ 45) : decB (c :: t) = (allDig (c :: t) && ((c :: t) == [48] || c != 48)) := by rw [decB, if_neg h]
theorem dig45 : dig 45 = false := by decide
/-- It is what the program's own test finds. -/
theorem decB_eq (l : List UInt8) : decB l = (allDig (digs l) && shortB (digs l) (isNeg l)) := by
  cases l with
  | nil => rfl
  | cons c t =>
    by_cases hc : c = 45
    · subst hc
      have hn : isNeg (45 :: t) = true := by
        unfold isNeg hasPrefix
        show ((45 : UInt8) == 45 && List.isPrefixOf [] _) = true
        rfl
      have hd : digs (45 :: t) = t := by
        unfold digs trimPrefix
        have hn' : hasPrefix (45 :: t) [45] = true := hn
        rw [if_pos hn']; rfl
      rw [decB_45, hn, hd]
      cases t with
      | nil => rfl
      | cons d u =>
        by_cases hd45 : d = 45
        · subst hd45
          have h1 : allDig (45 :: u) = false := by
            unfold allDig; rw [List.all_cons, dig45, Bool.false_and]
          rw [h1]
          have : ((45 :: u).headD 0 != (45 : UInt8)) = false := by rw [List.headD_cons]; decide
          rw [this, Bool.and_false, Bool.false_and]
        · rw [decB_no d u hd45]
          have h3 : ((d :: u).headD 0 != 45) = true := by rw [List.headD_cons, bne_iff_ne]; exact hd45
          rw [h3, Bool.and_true]
          show (d :: u != [48] && (allDig (d :: u) && (d :: u == [48] || d != 48))) = (allDig (d :: u) && ((d != 48) || (u.isEmpty && !true)))
          rw [Bool.not_true, Bool.and_false, Bool.or_false]
          by_cases h48 : d :: u = [48]
          · have h5 : d = 48 := by injection h48
            have h6 : u = [] := by injection h48
            subst h5 h6; decide
          · have e1 : (d :: u != [48]) = true := by rw [bne_iff_ne]; exact h48
            have e2 : (d :: u == [48]) = false := by rw [beq_eq_false_iff_ne]; exact h48
            rw [e1, e2, Bool.true_and, Bool.false_or]
    · have hn : isNeg (c :: t) = false := by
        unfold isNeg hasPrefix
        show ((45 : UInt8) == c && List.isPrefixOf [] t) = false
        have : ((45 : UInt8) == c) = false := by rw [beq_eq_false_iff_ne]; exact fun e => hc e.symm
        rw [this]; rfl
      have hd : digs (c :: t) = c :: t := by
        unfold digs trimPrefix
        have hn' : hasPrefix (c :: t) [45] = false := hn
        rw [hn']; rfl
      rw [decB_no c t hc, hn, hd]
      show (allDig (c :: t) && (c :: t == [48] || c != 48)) = (allDig (c :: t) && ((c != 48) || (t.isEmpty && !false)))
      rw [Bool.not_false, Bool.and_true]
      by_cases h48 : c = 48
      · subst h48
        cases t with
        | nil => rfl
        | cons d u =>
          have e2 : ((48 : UInt8) :: d :: u == [48]) = false := by rw [beq_eq_false_iff_ne]; intro h; cases h
          rw [e2]; rfl
      · have e1 : (c != 48) = true := by rw [bne_iff_ne]; exact h48
        rw [e1, Bool.or_true, Bool.true_or]
theorem p_decB_no (l : List UInt8) (h : decB l = false) : pE l = 2 ∧ pV l = 0 := by
  rw [decB_eq] at h
  cases hs : shortB (digs l) (isNeg l)
  · exact p_short l hs
  · rw [hs, Bool.and_true] at h
    have hr : rdErr (digs l) = 2 := by unfold rdErr; rw [h]; rfl
    have := p_read l hs (by omega)
    rw [hr] at this
    exact this
theorem p_decB_yes (l : List UInt8) (h : decB l = true) :
    (fitsM (dval (digs l) : Int) = false → pE l = 6 ∧ pV l = 0) ∧
    (fitsM (dval (digs l) : Int) = true → pE l = wE (signed (isNeg l) (dval (digs l) : Int)) ∧ pV l = signed (isNeg l) (dval (digs l) : Int)) := by
  rw [decB_eq, Bool.and_eq_true] at h
  refine ⟨fun hf => ?_, fun hf => ?_⟩
  · obtain ⟨e1, e2⟩ := rd_over _ h.1 hf
    have := p_read l h.2 (by omega)
    rw [e1] at this
    exact this
  · obtain ⟨e1, e2⟩ := rd_ok _ h.1 hf
    have := p_ok l h.2 e1
    rw [e2] at this
    exact this
end Go.Proofs.YtfapcllhcbedlaaDoor.WM
