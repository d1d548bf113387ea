/-
  Decimal forms written and read again, plain.
-/
import Derived.Test.YtipoccelkgijgaaDoorMathG
namespace Go.Proofs.YtipoccelkgijgaaDoor.WM
open Go Go.RowKit Go.Lib

theorem dec_small {u : Nat} (h : u < 10) : decDigits u = [UInt8.ofNat (48 + u)] := decDigits_one h
theorem dec_big {u : Nat} (h : ¬ u < 10) : decDigits u = decDigits (u / 10) ++ [UInt8.ofNat (48 + u % 10)] := by
  rw [decDigits, dif_neg h]
theorem u8n (d : Nat) (h : d < 10) : (UInt8.ofNat (48 + d)).toNat = 48 + d := by
  rw [UInt8.toNat_ofNat', Nat.mod_eq_of_lt (by omega)]
theorem allDig_dec (u : Nat) : allDig (decDigits u) = true := by
  induction u using Nat.strongRecOn with
  | ind u ih =>
    by_cases h : u < 10
    · rw [dec_small h]
      simp only [allDig, List.all_cons, List.all_nil, Bool.and_true, dig, decide_eq_true_eq]
      rw [u8n u h]; omega
    · rw [dec_big h, allDig_snoc, ih (u / 10) (by omega), Bool.true_and]
      simp only [dig, decide_eq_true_eq]
      rw [u8n (u % 10) (by omega)]; omega
theorem dval_dec (u : Nat) : dval (decDigits u) = u := by
  induction u using Nat.strongRecOn with
  | ind u ih =>
    by_cases h : u < 10
    · rw [dec_small h]
      show 0 * 10 + ((UInt8.ofNat (48 + u)).toNat - 48) = u
      rw [u8n u h]; omega
    · rw [dec_big h, dval_snoc, ih (u / 10) (by omega), u8n (u % 10) (by omega)]; omega
theorem head_dec (u : Nat) (h1 : 1 ≤ u) : ∃ c t, decDigits u = c :: t ∧ c ≠ 48 ∧ c ≠ 45 := by
  induction u using Nat.strongRecOn with
  | ind u ih =>
    by_cases h : u < 10
    · refine ⟨_, [], dec_small h, ?_, ?_⟩
      · intro e
        have := congrArg UInt8.toNat e
        rw [u8n u h, show (48 : UInt8).toNat = 48 from rfl] at this; omega
      · intro e
        have := congrArg UInt8.toNat e
        rw [u8n u h, show (45 : UInt8).toNat = 45 from rfl] at this; omega
    · obtain ⟨c, t, e, h2, h3⟩ := ih (u / 10) (by omega) (by omega)
      exact ⟨c, t ++ [_], by rw [dec_big h, e]; rfl, h2, h3⟩
theorem dec_zero : decDigits 0 = [48] := by rw [dec_small (by omega)]; rfl
theorem dec_nohyphen (u : Nat) : hasPrefix (decDigits u) [45] = false := by
  by_cases h : u = 0
  · subst h; rw [dec_zero]; rfl
  · obtain ⟨c, t, e, _, h3⟩ := head_dec u (by omega)
    rw [e]
    show ((45 : UInt8) == c && List.isPrefixOf [] t) = false
    have : ((45 : UInt8) == c) = false := by rw [beq_eq_false_iff_ne]; exact fun e => h3 e.symm
    rw [this]; rfl
theorem short_dec (u : Nat) : shortB (decDigits u) false = true := by
  by_cases h : u = 0
  · subst h; rw [dec_zero]; rfl
  · obtain ⟨c, t, e, h2, _⟩ := head_dec u (by omega)
    rw [e]
    show ((c != 48) || (t.isEmpty && !false)) = true
    have : (c != 48) = true := by rw [bne_iff_ne]; exact h2
    rw [this]; rfl
theorem short_neg (u : Nat) (h : 1 ≤ u) : shortB (decDigits u) true = true := by
  obtain ⟨c, t, e, h2, _⟩ := head_dec u h
  rw [e]
  show ((c != 48) || (t.isEmpty && !true)) = true
  have : (c != 48) = true := by rw [bne_iff_ne]; exact h2
  rw [this]; rfl
theorem rd_dec (u : Nat) (h : (u : Int) < 340282366920938463463374607431768211456) : rdErr (decDigits u) = 0 ∧ rdVal (decDigits u) = u := by
  have := rd_ok (decDigits u) (allDig_dec u) (by rw [dval_dec]; simp only [fitsM, decide_eq_true_eq]; exact h)
  rw [dval_dec] at this
  exact this
/-- A number's text is read as the number. -/
theorem parse_itoa (v : Int) (hv : inW v = true) : pE (itoa v) = 0 ∧ pV (itoa v) = v := by
  have hb := (inW_iff v).1 hv
  by_cases h : v < 0
  · have e : itoa v = 45 :: decDigits v.natAbs := by unfold itoa; rw [if_pos h]
    have hn : isNeg (itoa v) = true := by
      rw [e]; unfold isNeg hasPrefix
      show ((45 : UInt8) == 45 && List.isPrefixOf [] _) = true
      rfl
    have hd : digs (itoa v) = decDigits v.natAbs := by
      unfold digs trimPrefix
      have hn' : hasPrefix (itoa v) [45] = true := hn
      rw [if_pos hn', e]; rfl
    have hr := rd_dec v.natAbs (by omega)
    have hs : signed true (v.natAbs : Int) = v := by unfold signed; rw [if_pos rfl]; omega
    have := p_ok (itoa v) (by rw [hd, hn]; exact short_neg _ (by omega)) (by rw [hd]; exact hr.1)
    rw [hd, hn, hr.2, hs] at this
    rw [this.1, this.2, wE_in hv]
    exact ⟨rfl, rfl⟩
  · have e : itoa v = decDigits v.toNat := by unfold itoa; rw [if_neg h]
    have hn : isNeg (itoa v) = false := by rw [e]; exact dec_nohyphen _
    have hd : digs (itoa v) = decDigits v.toNat := by
      unfold digs trimPrefix
      have hn' : hasPrefix (itoa v) [45] = false := hn
      rw [hn', e]; rfl
    have hr := rd_dec v.toNat (by omega)
    have hs : signed false (v.toNat : Int) = v := by unfold signed; rw [if_neg (by decide)]; omega
    have := p_ok (itoa v) (by rw [hd, hn]; exact short_dec _) (by rw [hd]; exact hr.1)
    rw [hd, hn, hr.2, hs] at this
    rw [this.1, this.2, wE_in hv]
    exact ⟨rfl, rfl⟩
/-- Digits without a leading zero are the numeral of their value. -/
theorem dec_dval (l : List UInt8) (ha : allDig l = true) (hs : shortB l false = true) : decDigits (dval l) = l := by
  have key : ∀ (n : Nat) (l : List UInt8), l.length = n → allDig l = true → shortB l false = true → decDigits (dval l) = l := by
    intro n
    induction n using Nat.strongRecOn with
    | ind n ih =>
      intro l hl ha hs
      rcases List.eq_nil_or_concat l with rfl | ⟨m, c, rfl⟩
      · simp [shortB] at hs
      · rw [List.concat_eq_append] at *
        rw [allDig_snoc, Bool.and_eq_true] at ha
        have hc := ha.2
        simp only [dig, decide_eq_true_eq] at hc
        have hc8 : UInt8.ofNat (48 + (c.toNat - 48)) = c := by
          apply UInt8.toNat_inj.1
          rw [u8n _ (by omega)]; omega
        rw [dval_snoc]
        cases m with
        | nil =>
          have : dval [] = 0 := rfl
          rw [this, Nat.zero_mul, Nat.zero_add, dec_small (by omega), hc8]; rfl
        | cons a t =>
          have hsm : shortB (a :: t) false = true := by
            have h2 : ((a != 48) || ((t ++ [c]).isEmpty && !false)) = true := hs
            have h3 : (t ++ [c]).isEmpty = false := by cases t <;> rfl
            rw [h3] at h2
            show ((a != 48) || (t.isEmpty && !false)) = true
            have h4 : (a != 48) = true := by simpa using h2
            rw [h4]; rfl
          have hm := ih (a :: t).length (by rw [← hl]; simp) (a :: t) rfl ha.1 hsm
          have hpos : 1 ≤ dval (a :: t) := by
            have h5 : dval (a :: t) ≠ 0 := by
              intro h0
              rw [h0, dec_zero] at hm
              have h2 : ((a != 48) || ((t ++ [c]).isEmpty && !false)) = true := hs
              have h3 : (t ++ [c]).isEmpty = false := by cases t <;> rfl
              rw [h3] at h2
              have h6 : a = 48 := by injection hm with x _; exact x.symm
              rw [h6] at h2
              exact absurd h2 (by decide)
            omega
          rw [dec_big (by omega), show (dval (a :: t) * 10 + (c.toNat - 48)) / 10 = dval (a :: t) by omega, show (dval (a :: t) * 10 + (c.toNat - 48)) % 10 = c.toNat - 48 by omega, hm, hc8]
  exact key l.length l rfl ha hs
theorem short_weak (l : List UInt8) (b : Bool) (h : shortB l b = true) : shortB l false = true := by
  cases b
  · exact h
  · cases l with
    | nil => exact h
    | cons c t =>
      have h2 : ((c != 48) || (t.isEmpty && !true)) = true := h
      have h4 : (c != 48) = true := by simpa using h2
      show ((c != 48) || (t.isEmpty && !false)) = true
      rw [h4]; rfl
theorem short_pos (l : List UInt8) (ha : allDig l = true) (h : shortB l true = true) : 1 ≤ dval l := by
  have hd := dec_dval l ha (short_weak l true h)
  have h5 : dval l ≠ 0 := by
    intro h0
    rw [h0, dec_zero] at hd
    rw [← hd] at h
    exact absurd h (by decide)
  omega
theorem rd_zero (l : List UInt8) (h : rdErr l = 0) : allDig l = true ∧ rdVal l = dval l := by
  have h' := h
  unfold rdErr at h
  split at h
  · rename_i ha
    exact ⟨ha, by unfold rdVal; rw [if_pos h']⟩
  · omega
theorem wE_zero (v : Int) (h : wE v = 0) : inW v = true := by
  cases hi : inW v
  · rw [wE_out hi] at h; omega
  · rfl
/-- A text that is read without an error is the number's text. -/
theorem itoa_parse (l : List UInt8) (h : pE l = 0) : inW (pV l) = true ∧ itoa (pV l) = l := by
  cases h1 : shortB (digs l) (isNeg l)
  · rw [(p_short l h1).1] at h; omega
  · by_cases h2 : rdErr (digs l) = 0
    · obtain ⟨e1, e2⟩ := p_ok l h1 h2
      obtain ⟨ha, hv⟩ := rd_zero _ h2
      rw [e1] at h
      have hi := wE_zero _ h
      rw [e2]
      refine ⟨hi, ?_⟩
      rw [hv]
      cases hn : isNeg l
      · have hd : digs l = l := by
          unfold digs trimPrefix
          have hn' : hasPrefix l [45] = false := hn
          rw [hn']; rfl
        rw [hd] at ha h1 ⊢
        rw [hn] at h1
        have : signed false (dval l : Int) = dval l := by unfold signed; rw [if_neg (by decide)]
        rw [this]
        unfold itoa
        rw [if_neg (by omega), Int.toNat_natCast]
        exact dec_dval l ha h1
      · have hn' : hasPrefix l [45] = true := hn
        have hd : digs l = l.drop 1 := by
          unfold digs trimPrefix
          rw [if_pos hn']; rfl
        have hl : l = 45 :: l.drop 1 := by
          cases l with
          | nil => exact absurd hn' (by decide)
          | cons c t =>
            have h3 : ((45 : UInt8) == c && List.isPrefixOf [] t) = true := hn'
            have h4 : (45 : UInt8) = c := by
              have : ((45 : UInt8) == c) = true := by
                cases hq : ((45 : UInt8) == c)
                · rw [hq] at h3; exact absurd h3 (by simp)
                · rfl
              exact eq_of_beq this
            rw [← h4]; rfl
        rw [hn] at h1
        have hp := short_pos _ ha h1
        have : signed true (dval (digs l) : Int) = -(dval (digs l) : Int) := by unfold signed; rw [if_pos rfl]
        rw [this]
        unfold itoa
        rw [if_pos (by omega), show (-(dval (digs l) : Int)).natAbs = dval (digs l) by omega, dec_dval _ ha (short_weak _ _ h1)]
        conv => rhs; rw [hl]
        rw [hd]
    · rw [(p_read l h1 h2).1] at h; exact absurd h h2
theorem itoa_len (v : Int) (hv : inW v = true) : (itoa v).length ≤ 40 := by
  have hb := (inW_iff v).1 hv
  unfold itoa
  split
  · rw [List.length_cons, decDigits_length]
    have := nDigits_le39 v.natAbs (by omega)
    omega
  · rw [decDigits_length]
    have := nDigits_le39 v.toNat (by omega)
    omega
end Go.Proofs.YtipoccelkgijgaaDoor.WM
