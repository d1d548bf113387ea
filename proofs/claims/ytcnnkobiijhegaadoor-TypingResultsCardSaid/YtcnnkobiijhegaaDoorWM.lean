/-
  Decimal forms and encodings of lists, plain.
-/
import Derived.Lib.ItoaNum
import Derived.Lib.AtoiAllCases
import Derived.Lib.Strings
import GoSem.Claim
namespace Go.Proofs.YtcnnkobiijhegaaDoor.WM
open Go Go.Lib

def I64 (n : Int) : Prop := -9223372036854775808 ≤ n ∧ n ≤ 9223372036854775807
def i64B (n : Int) : Bool := decide (-9223372036854775808 ≤ n ∧ n ≤ 9223372036854775807)
def signed (b : Bool) (v : Int) : Int := if b then -v else v
/-! ### Digits -/
def dig (c : UInt8) : Bool := decide (48 ≤ (c.toNat : Int) ∧ (c.toNat : Int) ≤ 57)
def allDig (l : List UInt8) : Bool := l.all dig
/-- The value of a string of digits, behind a value a. -/
def dvalA (a : Nat) (l : List UInt8) : Nat := l.foldl (fun a c => a * 10 + (c.toNat - 48)) a
def dval (l : List UInt8) : Nat := dvalA 0 l
theorem dvalA_snoc (a : Nat) (l : List UInt8) (c : UInt8) : dvalA a (l ++ [c]) = dvalA a l * 10 + (c.toNat - 48) := by simp [dvalA]
theorem dvalA_app (a : Nat) (l m : List UInt8) : dvalA a (l ++ m) = dvalA (dvalA a l) m := by simp [dvalA]
theorem dvalA_eq (l : List UInt8) : ∀ a, dvalA a l = a * 10 ^ l.length + dval l := by
  induction l with
  | nil => intro a; simp [dvalA, dval]
  | cons c l ih =>
    intro a
    have e1 : dvalA a (c :: l) = dvalA (a * 10 + (c.toNat - 48)) l := rfl
    have e2 : dval (c :: l) = dvalA (0 * 10 + (c.toNat - 48)) l := rfl
    rw [e1, e2, ih, ih (0 * 10 + _), List.length_cons, Nat.pow_succ, Nat.add_mul, Nat.mul_assoc, Nat.mul_comm 10, Nat.add_assoc]
    simp
theorem dval_snoc (l : List UInt8) (c : UInt8) : dval (l ++ [c]) = dval l * 10 + (c.toNat - 48) := dvalA_snoc 0 l c
theorem dvalA_lt (l : List UInt8) : ∀ a, allDig l = true → dvalA a l < (a + 1) * 10 ^ l.length := by
  induction l with
  | nil => intro a _; simp [dvalA]
  | cons c l ih =>
    intro a h
    simp only [allDig, List.all_cons, Bool.and_eq_true, dig, decide_eq_true_eq] at h
    have h1 := ih (a * 10 + (c.toNat - 48)) h.2
    have h2 : (a * 10 + (c.toNat - 48) + 1) * 10 ^ l.length ≤ ((a + 1) * 10) * 10 ^ l.length := Nat.mul_le_mul_right _ (by omega)
    have e1 : dvalA a (c :: l) = dvalA (a * 10 + (c.toNat - 48)) l := rfl
    rw [e1, List.length_cons, Nat.pow_succ, Nat.mul_comm (10 ^ l.length) 10, ← Nat.mul_assoc]
    omega
theorem dval_lt (l : List UInt8) (h : allDig l = true) : dval l < 10 ^ l.length := by
  have := dvalA_lt l 0 h
  rw [Nat.zero_add, Nat.one_mul] at this
  exact this
theorem allDig_snoc (l : List UInt8) (c : UInt8) : allDig (l ++ [c]) = (allDig l && dig c) := by simp [allDig]
theorem allDig_app (l m : List UInt8) : allDig (l ++ m) = (allDig l && allDig m) := by simp [allDig]
theorem size_list (s : ByteArray) : s.data.toList.length = s.size := by rw [Array.length_toList]; rfl
theorem take_snoc (s : ByteArray) (k : Nat) (h : k < s.size) : s.data.toList.take (k + 1) = s.data.toList.take k ++ [s[k]] := by
  rw [List.take_succ_eq_append_getElem (by simpa using h)]; rfl
theorem allDig_take (l : List UInt8) (j : Nat) (h : allDig l = true) : allDig (l.take j) = true := by
  unfold allDig at *
  rw [List.all_eq_true] at *
  intro x hx
  exact h x (List.mem_of_mem_take hx)
theorem dval_take_le (l : List UInt8) (j : Nat) : dval (l.take j) ≤ dval l := by
  have h : dval l = dvalA (dval (l.take j)) (l.drop j) := by
    conv => lhs; rw [← List.take_append_drop j l]
    exact dvalA_app 0 _ _
  rw [h, dvalA_eq]
  have : 1 ≤ 10 ^ (l.drop j).length := Nat.one_le_pow _ _ (by decide)
  have := Nat.mul_le_mul_left (dval (l.take j)) this
  omega
def isNeg (l : List UInt8) : Bool := Lib.hasPrefix l [45]
def digs (l : List UInt8) : List UInt8 := Lib.trimPrefix l [45]
def shortB (l : List UInt8) (neg : Bool) : Bool := match l with
  | [] => false
  | c :: t => (c != 48) || (t.isEmpty && !neg)
theorem digs_length (l : List UInt8) : (digs l).length ≤ l.length := by
  unfold digs trimPrefix
  split
  · rw [List.length_drop]; omega
  · omega
theorem neg_cons (l : List UInt8) : isNeg (45 :: l) = true ∧ digs (45 :: l) = l := by
  have h : hasPrefix (45 :: l) [45] = true := by
    unfold hasPrefix
    show ((45 : UInt8) == 45 && List.isPrefixOf [] _) = true
    rfl
  exact ⟨h, by unfold digs trimPrefix; rw [if_pos h]; rfl⟩
theorem neg_no (l : List UInt8) (h : isNeg l = false) : digs l = l := by
  unfold digs trimPrefix
  have h' : hasPrefix l [45] = false := h
  rw [h']; rfl
theorem neg_yes (l : List UInt8) (h : isNeg l = true) : l = 45 :: digs l := by
  have hn' : hasPrefix l [45] = true := h
  cases l with
  | nil => exact absurd hn' (by decide)
  | cons c t =>
    have h3 : ((45 : UInt8) == c && List.isPrefixOf [] t) = true := hn'
    have h4 : (45 : UInt8) = c := by
      have : ((45 : UInt8) == c) = true := by
        cases hq : ((45 : UInt8) == c)
        · rw [hq] at h3; exact absurd h3 (by simp)
        · rfl
      exact eq_of_beq this
    subst h4
    rw [(neg_cons t).2]
/-! ### Numerals -/
theorem dec_small {u : Nat} (h : u < 10) : decDigits u = [UInt8.ofNat (48 + u)] := decDigits_one h
theorem dec_big {u : Nat} (h : ¬ u < 10) : decDigits u = decDigits (u / 10) ++ [UInt8.ofNat (48 + u % 10)] := by
  rw [decDigits, dif_neg h]
theorem u8n (d : Nat) (h : d < 10) : (UInt8.ofNat (48 + d)).toNat = 48 + d := by
  rw [UInt8.toNat_ofNat', Nat.mod_eq_of_lt (by omega)]
theorem nDigits_le : ∀ (k u : Nat), u < 10 ^ (k + 1) → nDigits u ≤ k + 1
  | 0, u, h => by
    have h1 : u < 10 := by simpa using h
    rw [nDigits_small h1]; omega
  | k + 1, u, h => by
    by_cases h1 : u < 10
    · rw [nDigits_small h1]; omega
    · rw [nDigits_big h1]
      have := nDigits_le k (u / 10) (by rw [Nat.pow_succ] at h; omega)
      omega
theorem allDig_dec (u : Nat) : allDig (decDigits u) = true := by
  induction u using Nat.strongRecOn with
  | ind u ih =>
    by_cases h : u < 10
    · rw [dec_small h]
      simp only [allDig, List.all_cons, List.all_nil, Bool.and_true, dig, decide_eq_true_eq]
      rw [u8n u h]; omega
    · rw [dec_big h, allDig_snoc, ih (u / 10) (by omega), Bool.true_and]
      simp only [dig, decide_eq_true_eq]
      rw [u8n (u % 10) (by omega)]; omega
theorem dval_dec (u : Nat) : dval (decDigits u) = u := by
  induction u using Nat.strongRecOn with
  | ind u ih =>
    by_cases h : u < 10
    · rw [dec_small h]
      show 0 * 10 + ((UInt8.ofNat (48 + u)).toNat - 48) = u
      rw [u8n u h]; omega
    · rw [dec_big h, dval_snoc, ih (u / 10) (by omega), u8n (u % 10) (by omega)]; omega
theorem head_dec (u : Nat) (h1 : 1 ≤ u) : ∃ c t, decDigits u = c :: t ∧ c ≠ 48 ∧ c ≠ 45 := by
  induction u using Nat.strongRecOn with
  | ind u ih =>
    by_cases h : u < 10
    · refine ⟨_, [], dec_small h, ?_, ?_⟩
      · intro e
        have := congrArg UInt8.toNat e
        rw [u8n u h, show (48 : UInt8).toNat = 48 from rfl] at this; omega
      · intro e
        have := congrArg UInt8.toNat e
        rw [u8n u h, show (45 : UInt8).toNat = 45 from rfl] at this; omega
    · obtain ⟨c, t, e, h2, h3⟩ := ih (u / 10) (by omega) (by omega)
      exact ⟨c, t ++ [_], by rw [dec_big h, e]; rfl, h2, h3⟩
theorem dec_zero : decDigits 0 = [48] := by rw [dec_small (by omega)]; rfl
theorem dec_nohyphen (u : Nat) : isNeg (decDigits u) = false := by
  unfold isNeg
  by_cases h : u = 0
  · subst h; rw [dec_zero]; rfl
  · obtain ⟨c, t, e, _, h3⟩ := head_dec u (by omega)
    rw [e]
    show ((45 : UInt8) == c && List.isPrefixOf [] t) = false
    have : ((45 : UInt8) == c) = false := by rw [beq_eq_false_iff_ne]; exact fun e => h3 e.symm
    rw [this]; rfl
theorem short_dec (u : Nat) : shortB (decDigits u) false = true := by
  by_cases h : u = 0
  · subst h; rw [dec_zero]; rfl
  · obtain ⟨c, t, e, h2, _⟩ := head_dec u (by omega)
    rw [e]
    show ((c != 48) || (t.isEmpty && !false)) = true
    have : (c != 48) = true := by rw [bne_iff_ne]; exact h2
    rw [this]; rfl
theorem short_neg (u : Nat) (h : 1 ≤ u) : shortB (decDigits u) true = true := by
  obtain ⟨c, t, e, h2, _⟩ := head_dec u h
  rw [e]
  show ((c != 48) || (t.isEmpty && !true)) = true
  have : (c != 48) = true := by rw [bne_iff_ne]; exact h2
  rw [this]; rfl
/-- Digits without a leading zero are the numeral of their value. -/
theorem dec_dval (l : List UInt8) (ha : allDig l = true) (hs : shortB l false = true) : decDigits (dval l) = l := by
  have key : ∀ (n : Nat) (l : List UInt8), l.length = n → allDig l = true → shortB l false = true → decDigits (dval l) = l := by
    intro n
    induction n using Nat.strongRecOn with
    | ind n ih =>
      intro l hl ha hs
      rcases List.eq_nil_or_concat l with rfl | ⟨m, c, rfl⟩
      · simp [shortB] at hs
      · rw [List.concat_eq_append] at *
        rw [allDig_snoc, Bool.and_eq_true] at ha
        have hc := ha.2
        simp only [dig, decide_eq_true_eq] at hc
        have hc8 : UInt8.ofNat (48 + (c.toNat - 48)) = c := by
          apply UInt8.toNat_inj.1
          rw [u8n _ (by omega)]; omega
        rw [dval_snoc]
        cases m with
        | nil =>
          have : dval [] = 0 := rfl
          rw [this, Nat.zero_mul, Nat.zero_add, dec_small (by omega), hc8]; rfl
        | cons a t =>
          have hsm : shortB (a :: t) false = true := by
            have h2 : ((a != 48) || ((t ++ [c]).isEmpty && !false)) = true := hs
            have h3 : (t ++ [c]).isEmpty = false := by cases t <;> rfl
            rw [h3] at h2
            show ((a != 48) || (t.isEmpty && !false)) = true
            have h4 : (a != 48) = true := by simpa using h2
            rw [h4]; rfl
          have hm := ih (a :: t).length (by rw [← hl]; simp) (a :: t) rfl ha.1 hsm
          have hpos : 1 ≤ dval (a :: t) := by
            have h5 : dval (a :: t) ≠ 0 := by
              intro h0
              rw [h0, dec_zero] at hm
              have h2 : ((a != 48) || ((t ++ [c]).isEmpty && !false)) = true := hs
              have h3 : (t ++ [c]).isEmpty = false := by cases t <;> rfl
              rw [h3] at h2
              have h6 : a = 48 := by injection hm with x _; exact x.symm
              rw [h6] at h2
              exact absurd h2 (by decide)
            omega
          rw [dec_big (by omega), show (dval (a :: t) * 10 + (c.toNat - 48)) / 10 = dval (a :: t) by omega, show (dval (a :: t) * 10 + (c.toNat - 48)) % 10 = c.toNat - 48 by omega, hm, hc8]
  exact key l.length l rfl ha hs
theorem short_weak (l : List UInt8) (b : Bool) (h : shortB l b = true) : shortB l false = true := by
  cases b
  · exact h
  · cases l with
    | nil => exact h
    | cons c t =>
      have h2 : ((c != 48) || (t.isEmpty && !true)) = true := h
      have h4 : (c != 48) = true := by simpa using h2
      show ((c != 48) || (t.isEmpty && !false)) = true
      rw [h4]; rfl
theorem short_pos (l : List UInt8) (ha : allDig l = true) (h : shortB l true = true) : 1 ≤ dval l := by
  have hd := dec_dval l ha (short_weak l true h)
  have h5 : dval l ≠ 0 := by
    intro h0
    rw [h0, dec_zero] at hd
    rw [← hd] at h
    exact absurd h (by decide)
  omega
/-! ### A number's text, read -/
/-- The text is the decimal form of an integer. -/
def tiOk (l : List UInt8) : Bool := shortB (digs l) (isNeg l) && allDig (digs l)
def tiN (l : List UInt8) : Int := signed (isNeg l) (dval (digs l))
def tiE (l : List UInt8) : Int := if tiOk l then (if i64B (tiN l) then 0 else 6) else 2
def tiV (l : List UInt8) : Int := if tiE l = 0 then tiN l else 0
theorem ti_bad {l : List UInt8} (h : tiOk l = false) : tiE l = 2 ∧ tiV l = 0 := by
  have e : tiE l = 2 := by unfold tiE; rw [h]; rfl
  exact ⟨e, by unfold tiV; rw [e]; rfl⟩
theorem ti_over {l : List UInt8} (h : tiOk l = true) (h2 : i64B (tiN l) = false) : tiE l = 6 ∧ tiV l = 0 := by
  have e : tiE l = 6 := by unfold tiE; rw [h, h2]; rfl
  exact ⟨e, by unfold tiV; rw [e]; rfl⟩
theorem ti_ok {l : List UInt8} (h : tiOk l = true) (h2 : i64B (tiN l) = true) : tiE l = 0 ∧ tiV l = tiN l := by
  have e : tiE l = 0 := by unfold tiE; rw [h, h2]; rfl
  exact ⟨e, by unfold tiV; rw [if_pos e]⟩
theorem tiE_zero {l : List UInt8} (h : tiE l = 0) : tiOk l = true ∧ I64 (tiN l) ∧ tiV l = tiN l := by
  cases h1 : tiOk l
  · rw [(ti_bad h1).1] at h; omega
  · cases h2 : i64B (tiN l)
    · rw [(ti_over h1 h2).1] at h; omega
    · exact ⟨rfl, by simpa [i64B, I64] using h2, (ti_ok h1 h2).2⟩
theorem tiE_cases (l : List UInt8) : tiE l = 0 ∨ tiE l = 2 ∨ tiE l = 6 := by
  unfold tiE; split
  · split <;> simp
  · simp
theorem tiV_I64 (l : List UInt8) : I64 (tiV l) := by
  by_cases h : tiE l = 0
  · obtain ⟨_, h1, h2⟩ := tiE_zero h
    rw [h2]; exact h1
  · unfold tiV; rw [if_neg h]; unfold I64; omega
theorem ti_itoa (v : Int) (hv : I64 v) : tiE (itoa v) = 0 ∧ tiV (itoa v) = v := by
  have hb : i64B v = true := by unfold i64B; simpa [I64] using hv
  by_cases h : v < 0
  · have e : itoa v = 45 :: decDigits v.natAbs := by unfold itoa; rw [if_pos h]
    obtain ⟨h1, h2⟩ := neg_cons (decDigits v.natAbs)
    have hN : tiN (itoa v) = v := by rw [e]; unfold tiN; rw [h1, h2, dval_dec]; unfold signed; rw [if_pos rfl]; omega
    have hO : tiOk (itoa v) = true := by rw [e]; unfold tiOk; rw [h1, h2, short_neg _ (by omega), allDig_dec]; rfl
    have := ti_ok hO (by rw [hN]; exact hb)
    rw [hN] at this
    exact this
  · have e : itoa v = decDigits v.toNat := by unfold itoa; rw [if_neg h]
    have h1 := dec_nohyphen v.toNat
    have h2 := neg_no _ h1
    have hN : tiN (itoa v) = v := by rw [e]; unfold tiN; rw [h1, h2, dval_dec]; unfold signed; rw [if_neg (by decide)]; omega
    have hO : tiOk (itoa v) = true := by rw [e]; unfold tiOk; rw [h1, h2, short_dec, allDig_dec]; rfl
    have := ti_ok hO (by rw [hN]; exact hb)
    rw [hN] at this
    exact this
theorem itoa_ti (l : List UInt8) (h : tiOk l = true) : itoa (tiN l) = l := by
  unfold tiOk at h
  rw [Bool.and_eq_true] at h
  obtain ⟨h1, ha⟩ := h
  cases hn : isNeg l
  · have hd := neg_no l hn
    unfold tiN
    rw [hd] at ha h1 ⊢
    rw [hn] at h1 ⊢
    have : signed false (dval l : Int) = dval l := by unfold signed; rw [if_neg (by decide)]
    rw [this]
    unfold itoa
    rw [if_neg (by omega), Int.toNat_natCast]
    exact dec_dval l ha h1
  · have hl := neg_yes l hn
    rw [hn] at h1
    have hp := short_pos _ ha h1
    unfold tiN
    rw [hn]
    have : signed true (dval (digs l) : Int) = -(dval (digs l) : Int) := by unfold signed; rw [if_pos rfl]
    rw [this]
    unfold itoa
    rw [if_pos (by omega), show (-(dval (digs l) : Int)).natAbs = dval (digs l) by omega, dec_dval _ ha (short_weak _ _ h1)]
    exact hl.symm
/-- The greatest size of a number with this sign. -/
def limN (neg : Bool) : Nat := if neg then 9223372036854775808 else 9223372036854775807
theorem ti_lim (l : List UInt8) : i64B (tiN l) = decide (dval (digs l) ≤ limN (isNeg l)) := by
  unfold i64B tiN limN signed
  cases isNeg l
  · simp; omega
  · simp; omega
theorem take_over {l : List UInt8} (h : tiOk l = true) (k : Nat) (hk : limN (isNeg l) < dval ((digs l).take k)) : tiE l = 6 ∧ tiV l = 0 := by
  refine ti_over h ?_
  rw [ti_lim, decide_eq_false_iff_not]
  have := dval_take_le (digs l) k
  omega
theorem take_fine {l : List UInt8} (h : tiOk l = true) (hk : dval (digs l) ≤ limN (isNeg l)) : tiE l = 0 ∧ tiV l = signed (isNeg l) (dval (digs l)) := by
  refine ti_ok h ?_
  rw [ti_lim, decide_eq_true_eq]
  exact hk
/-! ### The library's reading, at decimal forms -/
theorem parse_digits : ∀ (l : List UInt8) (a : Nat), allDig l = true → a < 18446744073709551616 → parseUint10 a l = if dvalA a l < 18446744073709551616 then .ok (dvalA a l) else .range
  | [], a, _, ha => by
    have e : dvalA a [] = a := rfl
    rw [e, if_pos ha]; rfl
  | c :: r, a, h, ha => by
    simp only [allDig, List.all_cons, Bool.and_eq_true] at h
    have hc := h.1
    simp only [dig, decide_eq_true_eq] at hc
    have e : dvalA a (c :: r) = dvalA (a * 10 + (c.toNat - 48)) r := rfl
    have hm : a * 10 + (c.toNat - 48) ≤ dvalA a (c :: r) := by
      rw [e, dvalA_eq]
      have : 1 ≤ 10 ^ r.length := Nat.one_le_pow _ _ (by decide)
      have := Nat.mul_le_mul_left (a * 10 + (c.toNat - 48)) this
      omega
    simp only [parseUint10]
    rw [if_pos (by omega)]
    by_cases h1 : 1844674407370955162 ≤ a
    · rw [if_pos h1, if_neg (by omega)]
    · rw [if_neg h1]
      by_cases h2 : 18446744073709551616 ≤ a * 10 + (c.toNat - 48)
      · rw [if_pos h2, if_neg (by omega)]
      · rw [if_neg h2, e]
        exact parse_digits r _ h.2 (by omega)
theorem parse_mag (l : List UInt8) (hs : l ≠ []) (ha : allDig l = true) : parseMag l = if dval l < 18446744073709551616 then .ok (dval l) else .range := by
  unfold parseMag
  rw [if_neg hs]
  exact parse_digits l 0 ha (by decide)
theorem short_ne {l : List UInt8} {b : Bool} (h : shortB l b = true) : l ≠ [] := by
  intro e; subst e; exact absurd h (by simp [shortB])
/-- At a decimal form the library's reading gives the number, or the error of the range. -/
theorem atoi_ti (l : List UInt8) (h : tiOk l = true) : atoiAll l = if i64B (tiN l) then .ok (tiN l) else .range := by
  have h0 := h
  unfold tiOk at h
  rw [Bool.and_eq_true] at h
  obtain ⟨h1, ha⟩ := h
  have hm := parse_mag _ (short_ne h1) ha
  cases hn : isNeg l
  · have hd := neg_no l hn
    have hN : tiN l = dval l := by unfold tiN; rw [hn, hd]; unfold signed; rw [if_neg (by decide)]
    rw [hd] at hm ha h1
    cases l with
    | nil => exact absurd h1 (by simp [shortB])
    | cons c t =>
      have hc : dig c = true := by simp only [allDig, List.all_cons, Bool.and_eq_true] at ha; exact ha.1
      simp only [dig, decide_eq_true_eq] at hc
      rw [atoiAll_plain c t (by omega) (by omega), hm, hN]
      unfold i64B signless
      by_cases q : dval (c :: t) < 18446744073709551616
      · rw [if_pos q]
        by_cases q2 : 9223372036854775808 ≤ dval (c :: t)
        · rw [if_neg (by simp; omega)]; simp only [if_pos q2]
        · rw [if_pos (by simp; omega)]; simp only [if_neg q2]
      · rw [if_neg q, if_neg (by simp; omega)]
  · have hl := neg_yes l hn
    have hN : tiN l = -(dval (digs l) : Int) := by unfold tiN; rw [hn]; unfold signed; rw [if_pos rfl]
    conv => lhs; rw [hl]
    rw [atoiAll_minus, hm, hN]
    unfold i64B Lib.signed
    by_cases q : dval (digs l) < 18446744073709551616
    · rw [if_pos q]
      by_cases q2 : 9223372036854775808 < dval (digs l)
      · rw [if_neg (by simp; omega)]; simp only [if_pos q2]
      · rw [if_pos (by simp; omega)]; simp only [if_neg q2]
    · rw [if_neg q, if_neg (by simp; omega)]
/-! ### Written digit by digit -/
/-- What has been written of M when m is left: the digits s. -/
def TextAt (M m : Nat) (s : List UInt8) : Prop := (decDigits m ++ s = decDigits M ∧ (1 ≤ m ∨ s = [])) ∨ (m = 0 ∧ s = decDigits M)
theorem text_start (M : Nat) : TextAt M M [] := Or.inl ⟨by simp, Or.inr rfl⟩
theorem dec_ne (M : Nat) : decDigits M ≠ [] := by
  intro h
  have := decDigits_length M
  rw [h] at this
  have := nDigits_pos M
  simp at *; omega
/-- Goes the loop on? -/
theorem text_more {M m : Nat} {s : List UInt8} (h : TextAt M m s) : (s = [] ∨ 1 ≤ m) ∨ (s ≠ [] ∧ m = 0 ∧ s = decDigits M) := by
  rcases h with ⟨h1, h2 | h2⟩ | ⟨h1, h2⟩
  · exact Or.inl (Or.inr h2)
  · exact Or.inl (Or.inl h2)
  · exact Or.inr ⟨by rw [h2]; exact dec_ne M, h1, h2⟩
theorem text_step {M m : Nat} {s : List UInt8} (h : TextAt M m s) (hg : s = [] ∨ 1 ≤ m) : TextAt M (m / 10) (UInt8.ofNat (48 + m % 10) :: s) := by
  rcases h with ⟨h1, h2⟩ | ⟨h1, h2⟩
  · by_cases hm : m < 10
    · refine Or.inr ⟨Nat.div_eq_of_lt hm, ?_⟩
      rw [dec_small hm] at h1
      rw [Nat.mod_eq_of_lt hm, ← h1]; rfl
    · refine Or.inl ⟨?_, Or.inl (by omega)⟩
      rw [dec_big hm] at h1
      rw [← h1, List.append_assoc]; rfl
  · rcases hg with hg | hg
    · exact absurd (h2.symm.trans hg) (dec_ne M)
    · omega
theorem nDigits_20 (M : Nat) (h : M < 18446744073709551616) : nDigits M ≤ 20 :=
  nDigits_le 19 M (by { have e10 : (10 : Nat) ^ (19 + 1) = 100000000000000000000 := (by decide); omega })
theorem text_len {M m : Nat} {s : List UInt8} (h : TextAt M m s) (hM : M < 18446744073709551616) : s.length ≤ 20 := by
  have hd : (decDigits M).length ≤ 20 := by rw [decDigits_length]; exact nDigits_20 M hM
  rcases h with ⟨h1, _⟩ | ⟨_, h2⟩
  · have := congrArg List.length h1
    rw [List.length_append] at this
    omega
  · rw [h2]; exact hd
theorem text_meas {m : Nat} : (if m / 10 = 0 then 0 else m / 10 + 1) < m + 1 := by
  split <;> omega
theorem text_down {m q g : Nat} {s : List UInt8} (hg : g = if m = 0 ∧ s ≠ [] then 0 else m + 1) (hgo : s = [] ∨ 1 ≤ m) (hq : m / 10 = q) : (if q = 0 then 0 else q + 1) < g := by
  have hn : ¬ (m = 0 ∧ s ≠ []) := by
    rintro ⟨a, b⟩
    rcases hgo with h | h
    · exact b h
    · omega
  rw [if_neg hn] at hg
  rw [hg, ← hq]
  exact text_meas
theorem itoa_len (v : Int) (hv : I64 v) : (itoa v).length ≤ 21 := by
  unfold I64 at hv
  unfold itoa
  split
  · rw [List.length_cons, decDigits_length]
    have := nDigits_20 v.natAbs (by omega)
    omega
  · rw [decDigits_length]
    have := nDigits_20 v.toNat (by omega)
    omega
/-! ### Texts -/
def str (l : List UInt8) : ByteArray := ⟨l.toArray⟩
theorem str_size (l : List UInt8) : (str l).size = l.length := by simp [str, ByteArray.size]
theorem str_list (l : List UInt8) : (str l).data.toList = l := by simp [str]
theorem str_app (a b : List UInt8) : str a ++ str b = str (a ++ b) := by
  apply ByteArray.ext
  simp [str]
theorem list_str (s : ByteArray) : str s.data.toList = s := by
  apply ByteArray.ext
  simp [str]
theorem str_cut (s : ByteArray) (a b : Nat) : s.extract a b = str ((s.data.toList.take b).drop a) := by
  apply ByteArray.ext
  apply Array.toList_inj.1
  simp [str, ByteArray.data_extract, List.drop_take]
end Go.Proofs.YtcnnkobiijhegaaDoor.WM
