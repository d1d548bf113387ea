/-
  Money, plain: amounts, places, the text of an amount, and what a text says.
-/
import Derived.Test.YtipoccelkgijgaaDoorMathR
namespace Go.Proofs.YtipoccelkgijgaaDoor.WM
open Go Go.RowKit Go.Lib

def amtB (a : Int) : Bool := decide (-1000000000000 ≤ a ∧ a ≤ 1000000000000)
def plB (d : Int) : Bool := decide (0 ≤ d ∧ d ≤ 4)

/-- The text of a number from 0 on with d decimal places. -/
def pointed (n d : Nat) : List UInt8 := if d = 0 then decDigits n else decDigits (n / 10 ^ d) ++ 46 :: pad d n
def fmtL (a d : Int) : List UInt8 := if amtB a && plB d then (if a < 0 then 45 :: pointed a.natAbs d.toNat else pointed a.natAbs d.toNat) else []
def fmtE (a d : Int) : Int := if amtB a && plB d then 0 else 1

theorem pad_length : ∀ d n, (pad d n).length = d
  | 0, _ => rfl
  | d + 1, n => by rw [pad, List.length_append, pad_length d]; rfl
theorem padded_eq : ∀ d n, List.replicate (d + 1 - nDigits n) 48 ++ decDigits n = decDigits (n / 10 ^ d) ++ pad d n
  | 0, n => by
    have := nDigits_pos n
    rw [show 0 + 1 - nDigits n = 0 by omega, Nat.pow_zero, Nat.div_one, pad]; simp
  | d + 1, n => by
    have ih := padded_eq d (n / 10)
    have e1 : n / 10 ^ (d + 1) = n / 10 / 10 ^ d := by rw [Nat.pow_succ, Nat.mul_comm, Nat.div_div_eq_div_mul]
    rw [e1, pad, ← List.append_assoc, ← ih]
    by_cases h : n < 10
    · rw [nDigits_small h, dec_small h, Nat.div_eq_of_lt h, dec_zero, nDigits_small (show 0 < 10 by omega), Nat.mod_eq_of_lt h]
      rw [show d + 1 + 1 - 1 = d + 1 by omega, show d + 1 - 1 = d by omega, List.replicate_succ']
    · rw [nDigits_big h, dec_big h, show d + 1 + 1 - (nDigits (n / 10) + 1) = d + 1 - nDigits (n / 10) by omega, List.append_assoc]
theorem pad_mod : ∀ d n, pad d (n % 10 ^ d) = pad d n
  | 0, _ => rfl
  | d + 1, n => by
    rw [pad, pad, Nat.pow_succ, Nat.mul_comm (10 ^ d) 10, Nat.mod_mul_right_div_self, Nat.mod_mul_right_mod, pad_mod d]
theorem drop_one (d n : Nat) : (decDigits (10 ^ d + n % 10 ^ d)).drop 1 = pad d n := by
  have hp : 0 < 10 ^ d := Nat.pow_pos (by decide)
  have := digits_block d 1 (n % 10 ^ d) (by omega) (Nat.mod_lt _ hp)
  rw [Nat.one_mul] at this
  rw [this, dec_small (by omega), pad_mod]; rfl
theorem pointed_ne (n d : Nat) : pointed n d ≠ [] := by
  unfold pointed
  have h : decDigits (if d = 0 then n else n / 10 ^ d) ≠ [] := by
    intro h
    have h1 := decDigits_length (if d = 0 then n else n / 10 ^ d)
    rw [h] at h1
    have := nDigits_pos (if d = 0 then n else n / 10 ^ d)
    simp at h1; omega
  split at h
  · rw [if_pos (by assumption)]; exact h
  · rw [if_neg (by assumption)]
    simp

/-! What a text says. -/
def pWhole (u : List UInt8) (d : Nat) : List UInt8 := if d = 0 then u else u.take (u.length - d - 1)
def pFrac (u : List UInt8) (d : Nat) : List UInt8 := if d = 0 then [] else u.drop (u.length - d)
def pFound (u : List UInt8) (d : Nat) : Bool := d == 0 || (decide (d + 1 ≤ u.length) && (u.getD (u.length - d - 1) 0 == 46))
def pOk (u : List UInt8) (d : Nat) : Bool := pFound u d && (shortB (pWhole u d) false && (allDig (pWhole u d) && allDig (pFrac u d)))
def pNum (u : List UInt8) (d : Nat) : Nat := dval (pWhole u d ++ pFrac u d)
def prE (l : List UInt8) (d : Int) : Int :=
  if plB d then (if pOk (digs l) d.toNat then (if isNeg l && pNum (digs l) d.toNat == 0 then 2 else if 1000000000000 < pNum (digs l) d.toNat then 6 else 0) else 2) else 1
def prV (l : List UInt8) (d : Int) : Int := if prE l d = 0 then signed (isNeg l) (pNum (digs l) d.toNat) else 0

theorem allDig_app (l m : List UInt8) : allDig (l ++ m) = (allDig l && allDig m) := by simp [allDig]
theorem allDig_pad : ∀ d n, allDig (pad d n) = true
  | 0, _ => rfl
  | d + 1, n => by
    rw [pad, allDig_snoc, allDig_pad d, Bool.true_and]
    simp only [dig, decide_eq_true_eq]
    rw [u8n (n % 10) (by omega)]; omega
theorem dval_pad : ∀ d n, dval (decDigits (n / 10 ^ d) ++ pad d n) = n
  | 0, n => by rw [Nat.pow_zero, Nat.div_one, pad, List.append_nil, dval_dec]
  | d + 1, n => by
    have e1 : n / 10 ^ (d + 1) = n / 10 / 10 ^ d := by rw [Nat.pow_succ, Nat.mul_comm, Nat.div_div_eq_div_mul]
    rw [e1, pad, ← List.append_assoc, dval_snoc, dval_pad d (n / 10), u8n (n % 10) (by omega)]; omega

theorem whole_pointed (n d : Nat) : pWhole (pointed n d) d = decDigits (n / 10 ^ d) := by
  unfold pWhole pointed
  by_cases h : d = 0
  · subst h; rw [if_pos rfl, if_pos rfl, Nat.pow_zero, Nat.div_one]
  · rw [if_neg h, if_neg h]
    have hl : (decDigits (n / 10 ^ d) ++ 46 :: pad d n).length = (decDigits (n / 10 ^ d)).length + (d + 1) := by
      rw [List.length_append, List.length_cons, pad_length]
    rw [hl, show (decDigits (n / 10 ^ d)).length + (d + 1) - d - 1 = (decDigits (n / 10 ^ d)).length by omega]
    exact List.take_left
theorem frac_pointed (n d : Nat) : pFrac (pointed n d) d = pad d n := by
  unfold pFrac pointed
  by_cases h : d = 0
  · subst h; rw [if_pos rfl]; rfl
  · rw [if_neg h, if_neg h]
    have hl : (decDigits (n / 10 ^ d) ++ 46 :: pad d n).length = (decDigits (n / 10 ^ d) ++ [46]).length + d := by
      rw [List.length_append, List.length_cons, pad_length, List.length_append, List.length_singleton]; omega
    rw [hl, Nat.add_sub_cancel, show decDigits (n / 10 ^ d) ++ 46 :: pad d n = (decDigits (n / 10 ^ d) ++ [46]) ++ pad d n by rw [List.append_assoc]; rfl]
    exact List.drop_left
theorem found_pointed (n d : Nat) : pFound (pointed n d) d = true := by
  unfold pFound
  by_cases h : d = 0
  · subst h; rfl
  · have hp : pointed n d = decDigits (n / 10 ^ d) ++ 46 :: pad d n := by unfold pointed; rw [if_neg h]
    have hl : (pointed n d).length = (decDigits (n / 10 ^ d)).length + (d + 1) := by
      rw [hp, List.length_append, List.length_cons, pad_length]
    rw [hl, show (decDigits (n / 10 ^ d)).length + (d + 1) - d - 1 = (decDigits (n / 10 ^ d)).length by omega, decide_eq_true (by omega), hp]
    simp
theorem ok_pointed (n d : Nat) : pOk (pointed n d) d = true ∧ pNum (pointed n d) d = n := by
  unfold pOk pNum
  rw [found_pointed, whole_pointed, frac_pointed, short_dec, allDig_dec, allDig_pad, dval_pad]
  exact ⟨rfl, rfl⟩
theorem head_pointed (n d : Nat) : hasPrefix (pointed n d) [45] = false := by
  have key : ∀ m t, hasPrefix (decDigits m ++ t) [45] = hasPrefix (decDigits m) [45] := by
    intro m t
    cases hm : decDigits m with
    | nil =>
      have h1 := decDigits_length m
      rw [hm] at h1
      have := nDigits_pos m
      simp at h1; omega
    | cons c l => show ((45 : UInt8) == c && List.isPrefixOf [] (l ++ t)) = ((45 : UInt8) == c && List.isPrefixOf [] l); rfl
  unfold pointed
  split
  · exact dec_nohyphen n
  · rw [key]; exact dec_nohyphen _
theorem neg_cons (l : List UInt8) : isNeg (45 :: l) = true ∧ digs (45 :: l) = l := by
  have hn : hasPrefix (45 :: l) [45] = true := by
    unfold hasPrefix
    show ((45 : UInt8) == 45 && List.isPrefixOf [] _) = true
    rfl
  refine ⟨hn, ?_⟩
  unfold digs trimPrefix
  rw [if_pos hn]; rfl
theorem neg_no (l : List UInt8) (h : hasPrefix l [45] = false) : isNeg l = false ∧ digs l = l := by
  refine ⟨h, ?_⟩
  unfold digs trimPrefix
  rw [h]; rfl
/-- An amount's text is read as the amount. -/
theorem read_fmt (a d : Int) (h : fmtE a d = 0) : prE (fmtL a d) d = 0 ∧ prV (fmtL a d) d = a := by
  have hg : (amtB a && plB d) = true := by
    unfold fmtE at h
    split at h
    · assumption
    · omega
  have hg' := hg
  rw [Bool.and_eq_true] at hg'
  obtain ⟨ha, hd⟩ := hg'
  simp only [amtB, decide_eq_true_eq] at ha
  obtain ⟨o1, o2⟩ := ok_pointed a.natAbs d.toNat
  by_cases hn : a < 0
  · have e : fmtL a d = 45 :: pointed a.natAbs d.toNat := by unfold fmtL; rw [if_pos hg, if_pos hn]
    obtain ⟨n1, n2⟩ := neg_cons (pointed a.natAbs d.toNat)
    have hE : prE (fmtL a d) d = 0 := by
      unfold prE
      rw [hd, if_pos rfl, e, n1, n2, o1, if_pos rfl, o2, show (a.natAbs == 0) = false by rw [beq_eq_false_iff_ne]; omega, Bool.and_false, if_neg (by decide), if_neg (by omega)]
    refine ⟨hE, ?_⟩
    unfold prV
    rw [if_pos hE, e, n1, n2, o2]
    unfold signed; rw [if_pos rfl]; omega
  · have e : fmtL a d = pointed a.natAbs d.toNat := by unfold fmtL; rw [if_pos hg, if_neg hn]
    obtain ⟨n1, n2⟩ := neg_no _ (head_pointed a.natAbs d.toNat)
    have hE : prE (fmtL a d) d = 0 := by
      unfold prE
      rw [hd, if_pos rfl, e, n1, n2, o1, if_pos rfl, o2, Bool.false_and, if_neg (by decide), if_neg (by omega)]
    refine ⟨hE, ?_⟩
    unfold prV
    rw [if_pos hE, e, n1, n2, o2]
    unfold signed; rw [if_neg (by decide)]; omega
/-- What stands behind the point are the last digits of the number. -/
theorem pad_dval (w : List UInt8) : ∀ (d : Nat) (f : List UInt8), f.length = d → allDig f = true → pad d (dval (w ++ f)) = f ∧ dval (w ++ f) / 10 ^ d = dval w
  | 0, f, hl, _ => by
    have : f = [] := List.eq_nil_of_length_eq_zero hl
    subst this
    rw [List.append_nil, Nat.pow_zero, Nat.div_one]; exact ⟨rfl, rfl⟩
  | d + 1, f, hl, hf => by
    rcases List.eq_nil_or_concat f with rfl | ⟨m, c, rfl⟩
    · simp at hl
    · rw [List.concat_eq_append] at *
      rw [allDig_snoc, Bool.and_eq_true] at hf
      have hc := hf.2
      simp only [dig, decide_eq_true_eq] at hc
      have hm : m.length = d := by simp at hl; omega
      obtain ⟨i1, i2⟩ := pad_dval w d m hm hf.1
      have hv : dval (w ++ (m ++ [c])) = dval (w ++ m) * 10 + (c.toNat - 48) := by rw [← List.append_assoc, dval_snoc]
      have hq : dval (w ++ (m ++ [c])) / 10 = dval (w ++ m) := by rw [hv]; omega
      have hr : dval (w ++ (m ++ [c])) % 10 = c.toNat - 48 := by rw [hv]; omega
      have hc8 : UInt8.ofNat (48 + (c.toNat - 48)) = c := by
        apply UInt8.toNat_inj.1
        rw [u8n _ (by omega)]; omega
      refine ⟨?_, ?_⟩
      · rw [pad, hq, hr, i1, hc8]
      · rw [Nat.pow_succ, Nat.mul_comm, ← Nat.div_div_eq_div_mul, hq, i2]
/-- A text that is accepted is the number's. -/
theorem pointed_num (u : List UInt8) (d : Nat) (h : pOk u d = true) : pointed (pNum u d) d = u := by
  unfold pOk at h
  simp only [Bool.and_eq_true] at h
  obtain ⟨hf, hs, hw, hx⟩ := h
  by_cases hd : d = 0
  · subst hd
    have e1 : pWhole u 0 = u := by unfold pWhole; rw [if_pos rfl]
    have e2 : pFrac u 0 = [] := by unfold pFrac; rw [if_pos rfl]
    unfold pNum pointed
    rw [if_pos rfl, e1, e2, List.append_nil]
    rw [e1] at hw hs
    exact dec_dval u hw hs
  · have hlen : d + 1 ≤ u.length ∧ u.getD (u.length - d - 1) 0 = 46 := by
      unfold pFound at hf
      simpa [hd] using hf
    have hfl : (pFrac u d).length = d := by unfold pFrac; rw [if_neg hd, List.length_drop]; omega
    obtain ⟨k1, k2⟩ := pad_dval (pWhole u d) d (pFrac u d) hfl hx
    unfold pointed pNum
    rw [if_neg hd, k1, k2, dec_dval _ hw hs]
    have hlt : u.length - d - 1 < u.length := by omega
    have e1 : pFrac u d = u.drop (u.length - d - 1 + 1) := by unfold pFrac; rw [if_neg hd, show u.length - d - 1 + 1 = u.length - d by omega]
    have e2 : (46 : UInt8) = u[u.length - d - 1] := by rw [← hlen.2]; simp [List.getD, hlt]
    rw [e1, e2, ← List.drop_eq_getElem_cons hlt]
    unfold pWhole
    rw [if_neg hd]
    exact List.take_append_drop _ _
theorem fmt_read (l : List UInt8) (d : Int) (h : prE l d = 0) : amtB (prV l d) = true ∧ fmtE (prV l d) d = 0 ∧ fmtL (prV l d) d = l := by
  have hV : prV l d = signed (isNeg l) (pNum (digs l) d.toNat) := by unfold prV; rw [if_pos h]
  unfold prE at h
  split at h
  · rename_i hd
    split at h
    · rename_i hok
      split at h
      · omega
      · rename_i hz
        split at h
        · omega
        · rename_i hbig
          have hp := pointed_num _ _ hok
          have hamt : amtB (prV l d) = true := by
            rw [hV]; unfold amtB signed; split <;> simp <;> omega
          refine ⟨hamt, by unfold fmtE; rw [hamt, hd]; rfl, ?_⟩
          unfold fmtL
          rw [hamt, hd, if_pos (by decide), hV]
          cases hn : isNeg l
          · have hd0 : digs l = l := (neg_no l hn).2
            have hsg : signed false (pNum (digs l) d.toNat : Int) = (pNum (digs l) d.toNat : Int) := by unfold signed; rw [if_neg (by decide)]
            rw [hsg, if_neg (by omega), Int.natAbs_natCast, hp, hd0]
          · have hpos : 1 ≤ pNum (digs l) d.toNat := by
              rw [hn, Bool.true_and] at hz
              have : pNum (digs l) d.toNat ≠ 0 := by simpa using hz
              omega
            have hsg : signed true (pNum (digs l) d.toNat : Int) = -(pNum (digs l) d.toNat : Int) := by unfold signed; rw [if_pos rfl]
            rw [hsg, if_pos (by omega), show (-(pNum (digs l) d.toNat : Int)).natAbs = pNum (digs l) d.toNat by omega, hp]
            have hn' : hasPrefix l [45] = true := hn
            cases l with
            | nil => exact absurd hn' (by decide)
            | cons c t =>
              have h3 : ((45 : UInt8) == c && List.isPrefixOf [] t) = true := hn'
              have h4 : (45 : UInt8) = c := by
                rw [Bool.and_eq_true] at h3
                exact eq_of_beq h3.1
              subst h4
              rw [(neg_cons t).2]
    · omega
  · omega
end Go.Proofs.YtipoccelkgijgaaDoor.WM
