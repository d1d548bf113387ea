/-
  Merged: Decimal forms and encodings of lists, plain. Bytes, marks, words, numbers and percentages of tokens, plain. Rates and percentages, plain. Tokens of a text, and a text of tokens, plain. Tokens: the library's readings at digits, cuts at a byte, repeated bytes, plain. What the document's own tokens want besides, plain: great numbers, a percentage's digits one by one, whole texts. Tokens: what every walk uses.
-/
import Derived.Lib.ItoaNum
import Derived.Lib.AtoiAllCases
import Derived.Lib.Strings
import GoSem.Claim
import Derived.Lib.Bytealg
import Derived.Lib.TrimByte
import Derived.Lib.ParseIntB
import Derived.Lib.Repeat
import Derived.Test.YthanoilbcdhbkaaGreatDoorProg
import Derived.WalkKit
import Derived.WalkMore
import Derived.Outline
import Derived.Below
import Derived.Lib.Hide
import Derived.Lib.Walk
import Derived.Laws.Externs
import Derived.Laws.Slices
import Derived.Laws.Strings3
import Derived.Laws.BitsAllLaws
import Derived.Laws.Shifts
import Derived.Laws.Bits64b
import Derived.Deep.QuietTactic
import Derived.BigQuiet
import Derived.BigCall
import Derived.BigGuard
import Derived.WalkSpells
import Derived.IntWalk
import Derived.LoopN
import Derived.Deep.LoopGhost
import Derived.OwnWalk
import Derived.ArgAppend
import Derived.Lib.SlFresh
import Derived.Lib.AppendStr
import Derived.Laws.IdiomStrings
import Derived.KernelRfl
import Derived.Deep.Heap
namespace Go.Proofs.YthanoilbcdhbkaaGreatDoor.WM
open Go Go.Lib

def I64 (n : Int) : Prop := -9223372036854775808 ≤ n ∧ n ≤ 9223372036854775807
def i64B (n : Int) : Bool := decide (-9223372036854775808 ≤ n ∧ n ≤ 9223372036854775807)
def signed (b : Bool) (v : Int) : Int := if b then -v else v
/-! ### Digits -/
def dig (c : UInt8) : Bool := decide (48 ≤ (c.toNat : Int) ∧ (c.toNat : Int) ≤ 57)
def allDig (l : List UInt8) : Bool := l.all dig
def dvalA (a : Nat) (l : List UInt8) : Nat := l.foldl (fun a c => a * 10 + (c.toNat - 48)) a
def dval (l : List UInt8) : Nat := dvalA 0 l
theorem dvalA_snoc (a : Nat) (l : List UInt8) (c : UInt8) : dvalA a (l ++ [c]) = dvalA a l * 10 + (c.toNat - 48) := by simp [dvalA]
theorem dvalA_app (a : Nat) (l m : List UInt8) : dvalA a (l ++ m) = dvalA (dvalA a l) m := by simp [dvalA]
theorem dvalA_eq (l : List UInt8) : ∀ a, dvalA a l = a * 10 ^ l.length + dval l := by
 induction l with
 | nil => intro a; simp [dvalA, dval]
 | cons c l ih =>
  intro a
  have e1 : dvalA a (c :: l) = dvalA (a * 10 + (c.toNat - 48)) l := rfl
  have e2 : dval (c :: l) = dvalA (0 * 10 + (c.toNat - 48)) l := rfl
  rw [e1, e2, ih, ih (0 * 10 + _), List.length_cons, Nat.pow_succ, Nat.add_mul, Nat.mul_assoc, Nat.mul_comm 10, Nat.add_assoc]
  simp
theorem dval_snoc (l : List UInt8) (c : UInt8) : dval (l ++ [c]) = dval l * 10 + (c.toNat - 48) := dvalA_snoc 0 l c
theorem dvalA_lt (l : List UInt8) : ∀ a, allDig l = true → dvalA a l < (a + 1) * 10 ^ l.length := by
 induction l with
 | nil => intro a _; simp [dvalA]
 | cons c l ih =>
  intro a h
  simp only [allDig, List.all_cons, Bool.and_eq_true, dig, decide_eq_true_eq] at h
  have h1 := ih (a * 10 + (c.toNat - 48)) h.2
  have h2 : (a * 10 + (c.toNat - 48) + 1) * 10 ^ l.length ≤ ((a + 1) * 10) * 10 ^ l.length := Nat.mul_le_mul_right _ (by omega)
  have e1 : dvalA a (c :: l) = dvalA (a * 10 + (c.toNat - 48)) l := rfl
  rw [e1, List.length_cons, Nat.pow_succ, Nat.mul_comm (10 ^ l.length) 10, ← Nat.mul_assoc]
  omega
theorem dval_lt (l : List UInt8) (h : allDig l = true) : dval l < 10 ^ l.length := by
 have := dvalA_lt l 0 h
 rw [Nat.zero_add, Nat.one_mul] at this
 exact this
theorem allDig_snoc (l : List UInt8) (c : UInt8) : allDig (l ++ [c]) = (allDig l && dig c) := by simp [allDig]
theorem allDig_app (l m : List UInt8) : allDig (l ++ m) = (allDig l && allDig m) := by simp [allDig]
theorem size_list (s : ByteArray) : s.data.toList.length = s.size := by rw [Array.length_toList]; rfl
theorem take_snoc (s : ByteArray) (k : Nat) (h : k < s.size) : s.data.toList.take (k + 1) = s.data.toList.take k ++ [s[k]] := by
 rw [List.take_succ_eq_append_getElem (by simpa using h)]; rfl
def isNeg (l : List UInt8) : Bool := Lib.hasPrefix l [45]
def digs (l : List UInt8) : List UInt8 := Lib.trimPrefix l [45]
def shortB (l : List UInt8) (neg : Bool) : Bool := match l with
 | [] => false
 | c :: t => (c != 48) || (t.isEmpty && !neg)
theorem neg_cons (l : List UInt8) : isNeg (45 :: l) = true ∧ digs (45 :: l) = l := by
 have h : hasPrefix (45 :: l) [45] = true := by
  unfold hasPrefix
  show ((45 : UInt8) == 45 && List.isPrefixOf [] _) = true
  rfl
 exact ⟨h, by unfold digs trimPrefix; rw [if_pos h]; rfl⟩
theorem neg_no (l : List UInt8) (h : isNeg l = false) : digs l = l := by
 unfold digs trimPrefix
 have h' : hasPrefix l [45] = false := h
 rw [h']; rfl
/-! ### Numerals -/
theorem dec_small {u : Nat} (h : u < 10) : decDigits u = [UInt8.ofNat (48 + u)] := decDigits_one h
theorem dec_big {u : Nat} (h : ¬ u < 10) : decDigits u = decDigits (u / 10) ++ [UInt8.ofNat (48 + u % 10)] := by
 rw [decDigits, dif_neg h]
theorem u8n (d : Nat) (h : d < 10) : (UInt8.ofNat (48 + d)).toNat = 48 + d := by
 rw [UInt8.toNat_ofNat', Nat.mod_eq_of_lt (by omega)]
theorem nDigits_le : ∀ (k u : Nat), u < 10 ^ (k + 1) → nDigits u ≤ k + 1
 | 0, u, h => by
  have h1 : u < 10 := by simpa using h
  rw [nDigits_small h1]; omega
 | k + 1, u, h => by
  by_cases h1 : u < 10
  ·rw [nDigits_small h1]; omega
  ·rw [nDigits_big h1]
   have := nDigits_le k (u / 10) (by rw [Nat.pow_succ] at h; omega)
   omega
theorem allDig_dec (u : Nat) : allDig (decDigits u) = true := by
 induction u using Nat.strongRecOn with
 | ind u ih =>
  by_cases h : u < 10
  ·rw [dec_small h]
   simp only [allDig, List.all_cons, List.all_nil, Bool.and_true, dig, decide_eq_true_eq]
   rw [u8n u h]; omega
  ·rw [dec_big h, allDig_snoc, ih (u / 10) (by omega), Bool.true_and]
   simp only [dig, decide_eq_true_eq]
   rw [u8n (u % 10) (by omega)]; omega
theorem dval_dec (u : Nat) : dval (decDigits u) = u := by
 induction u using Nat.strongRecOn with
 | ind u ih =>
  by_cases h : u < 10
  ·rw [dec_small h]
   show 0 * 10 + ((UInt8.ofNat (48 + u)).toNat - 48) = u
   rw [u8n u h]; omega
  ·rw [dec_big h, dval_snoc, ih (u / 10) (by omega), u8n (u % 10) (by omega)]; omega
theorem head_dec (u : Nat) (h1 : 1 ≤ u) : ∃ c t, decDigits u = c :: t ∧ c ≠ 48 ∧ c ≠ 45 := by
 induction u using Nat.strongRecOn with
 | ind u ih =>
  by_cases h : u < 10
  ·refine ⟨_, [], dec_small h, ?_, ?_⟩
   ·intro e
    have := congrArg UInt8.toNat e
    rw [u8n u h, show (48 : UInt8).toNat = 48 from rfl] at this; omega
   ·intro e
    have := congrArg UInt8.toNat e
    rw [u8n u h, show (45 : UInt8).toNat = 45 from rfl] at this; omega
  ·obtain ⟨c, t, e, h2, h3⟩ := ih (u / 10) (by omega) (by omega)
   exact ⟨c, t ++ [_], by rw [dec_big h, e]; rfl, h2, h3⟩
theorem dec_zero : decDigits 0 = [48] := by rw [dec_small (by omega)]; rfl
theorem dec_nohyphen (u : Nat) : isNeg (decDigits u) = false := by
 unfold isNeg
 by_cases h : u = 0
 ·subst h; rw [dec_zero]; rfl
 ·obtain ⟨c, t, e, _, h3⟩ := head_dec u (by omega)
  rw [e]
  show ((45 : UInt8) == c && List.isPrefixOf [] t) = false
  have : ((45 : UInt8) == c) = false := by rw [beq_eq_false_iff_ne]; exact fun e => h3 e.symm
  rw [this]; rfl
theorem short_dec (u : Nat) : shortB (decDigits u) false = true := by
 by_cases h : u = 0
 ·subst h; rw [dec_zero]; rfl
 ·obtain ⟨c, t, e, h2, _⟩ := head_dec u (by omega)
  rw [e]
  show ((c != 48) || (t.isEmpty && !false)) = true
  have : (c != 48) = true := by rw [bne_iff_ne]; exact h2
  rw [this]; rfl
theorem short_neg (u : Nat) (h : 1 ≤ u) : shortB (decDigits u) true = true := by
 obtain ⟨c, t, e, h2, _⟩ := head_dec u h
 rw [e]
 show ((c != 48) || (t.isEmpty && !true)) = true
 have : (c != 48) = true := by rw [bne_iff_ne]; exact h2
 rw [this]; rfl
/-! ### A number's text, read -/
def tiOk (l : List UInt8) : Bool := shortB (digs l) (isNeg l) && allDig (digs l)
def tiN (l : List UInt8) : Int := signed (isNeg l) (dval (digs l))
def tiE (l : List UInt8) : Int := if tiOk l then (if i64B (tiN l) then 0 else 6) else 2
def tiV (l : List UInt8) : Int := if tiE l = 0 then tiN l else 0
theorem ti_ok {l : List UInt8} (h : tiOk l = true) (h2 : i64B (tiN l) = true) : tiE l = 0 ∧ tiV l = tiN l := by
 have e : tiE l = 0 := by unfold tiE; rw [h, h2]; rfl
 exact ⟨e, by unfold tiV; rw [if_pos e]⟩
theorem ti_itoa (v : Int) (hv : I64 v) : tiE (itoa v) = 0 ∧ tiV (itoa v) = v := by
 have hb : i64B v = true := by unfold i64B; simpa [I64] using hv
 by_cases h : v < 0
 ·have e : itoa v = 45 :: decDigits v.natAbs := by unfold itoa; rw [if_pos h]
  obtain ⟨h1, h2⟩ := neg_cons (decDigits v.natAbs)
  have hN : tiN (itoa v) = v := by rw [e]; unfold tiN; rw [h1, h2, dval_dec]; unfold signed; rw [if_pos rfl]; omega
  have hO : tiOk (itoa v) = true := by rw [e]; unfold tiOk; rw [h1, h2, short_neg _ (by omega), allDig_dec]; rfl
  have := ti_ok hO (by rw [hN]; exact hb)
  rw [hN] at this
  exact this
 ·have e : itoa v = decDigits v.toNat := by unfold itoa; rw [if_neg h]
  have h1 := dec_nohyphen v.toNat
  have h2 := neg_no _ h1
  have hN : tiN (itoa v) = v := by rw [e]; unfold tiN; rw [h1, h2, dval_dec]; unfold signed; rw [if_neg (by decide)]; omega
  have hO : tiOk (itoa v) = true := by rw [e]; unfold tiOk; rw [h1, h2, short_dec, allDig_dec]; rfl
  have := ti_ok hO (by rw [hN]; exact hb)
  rw [hN] at this
  exact this
/-! ### The library's reading, at decimal forms -/
theorem parse_digits : ∀ (l : List UInt8) (a : Nat), allDig l = true → a < 18446744073709551616 → parseUint10 a l = if dvalA a l < 18446744073709551616 then .ok (dvalA a l) else .range
 | [], a, _, ha => by
  have e : dvalA a [] = a := rfl
  rw [e, if_pos ha]; rfl
 | c :: r, a, h, ha => by
  simp only [allDig, List.all_cons, Bool.and_eq_true] at h
  have hc := h.1
  simp only [dig, decide_eq_true_eq] at hc
  have e : dvalA a (c :: r) = dvalA (a * 10 + (c.toNat - 48)) r := rfl
  have hm : a * 10 + (c.toNat - 48) ≤ dvalA a (c :: r) := by
   rw [e, dvalA_eq]
   have : 1 ≤ 10 ^ r.length := Nat.one_le_pow _ _ (by decide)
   have := Nat.mul_le_mul_left (a * 10 + (c.toNat - 48)) this
   omega
  simp only [parseUint10]
  rw [if_pos (by omega)]
  by_cases h1 : 1844674407370955162 ≤ a
  ·rw [if_pos h1, if_neg (by omega)]
  ·rw [if_neg h1]
   by_cases h2 : 18446744073709551616 ≤ a * 10 + (c.toNat - 48)
   ·rw [if_pos h2, if_neg (by omega)]
   ·rw [if_neg h2, e]
    exact parse_digits r _ h.2 (by omega)
theorem parse_mag (l : List UInt8) (hs : l ≠ []) (ha : allDig l = true) : parseMag l = if dval l < 18446744073709551616 then .ok (dval l) else .range := by
 unfold parseMag
 rw [if_neg hs]
 exact parse_digits l 0 ha (by decide)
theorem short_ne {l : List UInt8} {b : Bool} (h : shortB l b = true) : l ≠ [] := by
 intro e; subst e; exact absurd h (by simp [shortB])
/-! ### Written digit by digit -/
theorem nDigits_20 (M : Nat) (h : M < 18446744073709551616) : nDigits M ≤ 20 :=
 nDigits_le 19 M (by { have e10 : (10 : Nat) ^ (19 + 1) = 100000000000000000000 := (by decide); omega })
/-! ### Texts -/
def str (l : List UInt8) : ByteArray := ⟨l.toArray⟩
theorem str_size (l : List UInt8) : (str l).size = l.length := by simp [str, ByteArray.size]
theorem str_list (l : List UInt8) : (str l).data.toList = l := by simp [str]
theorem str_app (a b : List UInt8) : str a ++ str b = str (a ++ b) := by
 apply ByteArray.ext
 simp [str]
theorem list_str (s : ByteArray) : str s.data.toList = s := by
 apply ByteArray.ext
 simp [str]
theorem str_cut (s : ByteArray) (a b : Nat) : s.extract a b = str ((s.data.toList.take b).drop a) := by
 apply ByteArray.ext
 apply Array.toList_inj.1
 simp [str, ByteArray.data_extract, List.drop_take]
end Go.Proofs.YthanoilbcdhbkaaGreatDoor.WM

namespace Go.Proofs.YthanoilbcdhbkaaGreatDoor.TM
open Go Go.Lib WM

def byt (s : ByteArray) : List UInt8 := s.data.toList
theorem byt_str (l : List UInt8) : byt (str l) = l := str_list l
theorem str_byt (s : ByteArray) : str (byt s) = s := list_str s
theorem byt_len (s : ByteArray) : (byt s).length = s.size := size_list s
theorem u8_all (p : UInt8 → Bool) (h : ∀ i : Fin 256, p (UInt8.ofNat i.val) = true) (c : UInt8) : p c = true := by
 have := h ⟨c.toNat, c.toNat_lt⟩
 rwa [show UInt8.ofNat c.toNat = c from UInt8.ofNat_toNat] at this

/-! ### Kinds of bytes -/
def isL (c : UInt8) : Bool := decide (97 ≤ c.toNat ∧ c.toNat ≤ 122)
def isW (c : UInt8) : Bool := isL c || dig c || c == 95
def isN (c : UInt8) : Bool := isW c || c == 46 || c == 37
def kd (c : UInt8) : Int :=
 if isL c then 4 else if dig c then 5 else if c = 32 ∨ c = 9 then 1 else if c = 10 then 2 else if c = 35 then 3
 else if c = 95 then 6 else if c = 46 ∨ c = 37 then 7 else 0
def inK (K : List Int) (c : UInt8) : Bool := K.contains (kd c)
theorem inK_W : inK [4, 5, 6] = isW := by
 funext c
 have := u8_all (fun c => inK [4, 5, 6] c == isW c) (by decide +kernel) c
 exact eq_of_beq this
theorem inK_N : inK [4, 5, 6, 7] = isN := by
 funext c
 have := u8_all (fun c => inK [4, 5, 6, 7] c == isN c) (by decide +kernel) c
 exact eq_of_beq this
theorem inK_D : inK [5] = dig := by
 funext c
 have := u8_all (fun c => inK [5] c == dig c) (by decide +kernel) c
 exact eq_of_beq this
theorem dig_W (c : UInt8) (h : dig c = true) : isW c = true := by simp [isW, h]
theorem dig_N (c : UInt8) (h : dig c = true) : isN c = true := by simp [isN, dig_W c h]
def sp (p : UInt8 → Bool) (l : List UInt8) : Nat := (l.takeWhile p).length
theorem sp_le (p : UInt8 → Bool) (l : List UInt8) : sp p l ≤ l.length := (List.takeWhile_sublist p).length_le
theorem take_sp (p : UInt8 → Bool) (l : List UInt8) : l.take (sp p l) = l.takeWhile p := by
 unfold sp
 induction l with
 | nil => rfl
 | cons c r ih =>
  rw [List.takeWhile_cons]
  split
  ·rw [List.length_cons, List.take_succ_cons, ih]
  ·rfl
theorem drop_sp (p : UInt8 → Bool) (l : List UInt8) : l.drop (sp p l) = l.dropWhile p := by
 unfold sp
 induction l with
 | nil => rfl
 | cons c r ih =>
  rw [List.takeWhile_cons, List.dropWhile_cons]
  split
  ·rw [List.length_cons, List.drop_succ_cons, ih]
  ·rfl
theorem sp_at (p : UInt8 → Bool) (l : List UInt8) (k : Nat) (hk : k < l.length) (hA : ∀ j, (h : j < k) → p (l[j]'(by omega)) = true) (hB : p l[k] = false) : sp p l = k := by
 induction l generalizing k with
 | nil => exact absurd hk (Nat.not_lt_zero _)
 | cons c r ih =>
  unfold sp
  cases k with
  | zero =>
   have h1 : p c = false := hB
   rw [List.takeWhile_cons, h1]; rfl
  | succ k =>
   have h1 : p c = true := hA 0 (Nat.succ_pos _)
   rw [List.takeWhile_cons, h1]
   show sp p r + 1 = k + 1
   rw [ih k (Nat.lt_of_succ_lt_succ hk) (fun j hj => hA (j + 1) (Nat.succ_lt_succ hj)) hB]
theorem sp_all (p : UInt8 → Bool) (l : List UInt8) (hA : ∀ j, (h : j < l.length) → p l[j] = true) : sp p l = l.length := by
 induction l with
 | nil => rfl
 | cons c r ih =>
  unfold sp
  have h1 : p c = true := hA 0 (Nat.succ_pos _)
  rw [List.takeWhile_cons, h1]
  show sp p r + 1 = r.length + 1
  rw [ih (fun j hj => hA (j + 1) (Nat.succ_lt_succ hj))]
theorem sp_lt (p : UInt8 → Bool) (l : List UInt8) (j : Nat) (hj : j < sp p l) : ∃ h : j < l.length, p l[j] = true := by
 induction l generalizing j with
 | nil => exact absurd hj (Nat.not_lt_zero _)
 | cons c r ih =>
  unfold sp at hj
  rw [List.takeWhile_cons] at hj
  split at hj
  ·rename_i h1
   cases j with
   | zero => exact ⟨Nat.succ_pos _, h1⟩
   | succ j =>
    obtain ⟨h, hp⟩ := ih j (Nat.lt_of_succ_lt_succ hj)
    exact ⟨Nat.succ_lt_succ h, hp⟩
  ·exact absurd hj (Nat.not_lt_zero _)
theorem sp_stop (p : UInt8 → Bool) (l : List UInt8) (h : sp p l < l.length) : p l[sp p l] = false := by
 cases h1 : p l[sp p l]
 ·rfl
 ·exfalso
  have key : ∀ (l : List UInt8) (h : sp p l < l.length), p l[sp p l] = true → False := by
   intro l
   induction l with
   | nil => intro h _; exact absurd h (Nat.not_lt_zero _)
   | cons c r ih =>
    intro h h1
    cases hc : p c
    ·have e : sp p (c :: r) = 0 := by unfold sp; rw [List.takeWhile_cons, hc]; rfl
     simp only [e, List.getElem_cons_zero, hc] at h1
     exact absurd h1 (by decide)
    ·have e : sp p (c :: r) = sp p r + 1 := by unfold sp; rw [List.takeWhile_cons, hc]; rfl
     simp only [e, List.getElem_cons_succ] at h1
     exact ih (by rw [e] at h; exact Nat.lt_of_succ_lt_succ h) h1
  exact key l h h1
theorem tw_idem (p : UInt8 → Bool) (l : List UInt8) : (l.takeWhile p).takeWhile p = l.takeWhile p := by
 induction l with
 | nil => rfl
 | cons c l ih =>
  rw [List.takeWhile_cons]
  split
  ·rename_i h; rw [List.takeWhile_cons, if_pos h, ih]
  ·rfl
theorem tw_cons_pos (p : UInt8 → Bool) (c : UInt8) (l : List UInt8) (h : p c = true) : (c :: l).takeWhile p = c :: l.takeWhile p := by rw [List.takeWhile_cons, if_pos h]

/-! ### Words -/
def wds : List (List UInt8) := [
 [112, 114, 111, 100, 117, 99, 116], [99, 117, 114, 114, 101, 110, 99, 121], [99, 97, 108, 101, 110, 100, 97, 114], [102, 114, 111, 109], [101, 118, 101, 114, 121],
 [111, 118, 101, 114, 100, 114, 97, 102, 116], [116, 97, 120], [99, 114, 101, 100, 105, 116], [100, 101, 98, 105, 116], [109, 97, 114, 103, 105, 110, 97, 108],
 [119, 104, 111, 108, 101], [97, 99, 116, 51, 54, 48], [97, 99, 116, 51, 54, 53], [97, 99, 116, 117, 97, 108], [116, 104, 105, 114, 116, 121],
 [100, 111, 119, 110], [117, 112], [102, 108, 111, 111, 114], [99, 101, 105, 108], [104, 97, 108, 102, 95, 117, 112],
 [104, 97, 108, 102, 95, 101, 118, 101, 110], [107, 101, 101, 112], [100, 114, 111, 112], [102, 101, 101], [108, 105, 109, 105, 116],
 [119, 104, 101, 110], [97, 109, 111, 117, 110, 116, 95, 111, 102], [115, 105, 110, 103, 108, 101], [100, 97, 105, 108, 121], [109, 111, 110, 116, 104, 108, 121],
 [109, 111, 110, 116, 104], [114, 101, 116, 117, 114, 110], [99, 108, 111, 115, 101], [101, 118, 101, 110, 116], [105, 102],
 [116, 104, 101, 110], [101, 108, 115, 101], [97, 110, 100], [111, 114], [110, 111, 116],
 [109, 105, 110], [109, 97, 120]]
def wrd (l : List UInt8) : Bool := wds.contains l

/-! ### Marks -/
def mks : List (List UInt8) := [[123], [125], [40], [41], [44], [59], [58], [36], [43], [45], [42], [47], [61, 61], [33, 61], [60, 61], [60]]
def one : List UInt8 := [123, 125, 40, 41, 44, 59, 58, 36, 43, 45, 42, 47, 60]
def mrk : List UInt8 → Nat
 | [] => 0
 | c :: r => if r.head? = some 61 ∧ (c = 61 ∨ c = 33 ∨ c = 60) then 2 else if one.contains c then 1 else 0
theorem mrk_cons (c : UInt8) (r : List UInt8) : mrk (c :: r) = if r.head? = some 61 ∧ (c = 61 ∨ c = 33 ∨ c = 60) then 2 else if one.contains c then 1 else 0 := rfl
def mfind (c : UInt8) (b : Bool) (m : List UInt8) : Bool := match m with
 | [a] => a == c
 | _ :: _ => m.head? == some c && b
 | [] => true
theorem mfind_eq (c : UInt8) (r : List UInt8) (m : List UInt8) (hm : m ∈ mks) : hasPrefix (c :: r) m = mfind c (decide (r.head? = some 61)) m := by
 have h : m = [m.headD 0] ∨ m = [m.headD 0, 61] := by
  have : ∀ m ∈ mks, m = [m.headD 0] ∨ m = [m.headD 0, 61] := by decide
  exact this m hm
 rcases h with h | h
 ·rw [h]
  generalize m.headD 0 = a
  simp [hasPrefix, mfind, List.isPrefixOf]
 ·rw [h]
  generalize m.headD 0 = a
  cases r with
  | nil => simp [hasPrefix, mfind, List.isPrefixOf]
  | cons d r =>
   simp only [hasPrefix, mfind, List.isPrefixOf, List.head?_cons, Bool.and_true]
   by_cases e : a = c
   ·subst e
    by_cases e2 : d = 61
    ·subst e2; simp
    ·have h1 : ((61 : UInt8) == d) = false := by rw [beq_eq_false_iff_ne]; exact fun h => e2 h.symm
     simp [h1, e2]
   ·have h1 : (a == c) = false := by rw [beq_eq_false_iff_ne]; exact e
    simp [h1]
theorem find_mfind (c : UInt8) (b : Bool) : mks.find? (mfind c b) = if b = true ∧ (c = 61 ∨ c = 33 ∨ c = 60) then some [c, 61] else if one.contains c then some [c] else none := by
 cases b
 ·have := u8_all (fun c => decide (mks.find? (mfind c false) = if false = true ∧ (c = 61 ∨ c = 33 ∨ c = 60) then some [c, 61] else if one.contains c then some [c] else none)) (by decide +kernel) c
  exact of_decide_eq_true this
 ·have := u8_all (fun c => decide (mks.find? (mfind c true) = if true = true ∧ (c = 61 ∨ c = 33 ∨ c = 60) then some [c, 61] else if one.contains c then some [c] else none)) (by decide +kernel) c
  exact of_decide_eq_true this
theorem find_mks (c : UInt8) (r : List UInt8) : mks.find? (hasPrefix (c :: r)) = if mrk (c :: r) = 0 then none else some ((c :: r).take (mrk (c :: r))) := by
 have h1 : mks.find? (hasPrefix (c :: r)) = mks.find? (mfind c (decide (r.head? = some 61))) := by
  have : ∀ ms : List (List UInt8), (∀ m ∈ ms, m ∈ mks) → ms.find? (hasPrefix (c :: r)) = ms.find? (mfind c (decide (r.head? = some 61))) := by
   intro ms
   induction ms with
   | nil => intro _; rfl
   | cons m ms ih =>
    intro h
    rw [List.find?_cons, List.find?_cons, mfind_eq c r m (h m List.mem_cons_self), ih (fun x hx => h x (List.mem_cons_of_mem _ hx))]
  exact this mks (fun m h => h)
 rw [h1, find_mfind]
 have hv : mrk (c :: r) = if r.head? = some 61 ∧ (c = 61 ∨ c = 33 ∨ c = 60) then 2 else if one.contains c then 1 else 0 := rfl
 have hlow : ¬ (r.head? = some 61 ∧ (c = 61 ∨ c = 33 ∨ c = 60)) → (if one.contains c then some [c] else none) = if mrk (c :: r) = 0 then none else some ((c :: r).take (mrk (c :: r))) := by
  intro hn
  rw [if_neg hn] at hv
  cases hm : one.contains c
  ·rw [hm] at hv
   rw [hv]; rfl
  ·rw [hm] at hv
   rw [hv]; rfl
 by_cases hb : r.head? = some 61
 ·have hr : r = 61 :: r.tail := by
   cases r with
   | nil => exact absurd hb (by simp)
   | cons d r => simp only [List.head?_cons, Option.some.injEq] at hb; subst hb; rfl
  by_cases hc : c = 61 ∨ c = 33 ∨ c = 60
  ·rw [if_pos ⟨hb, hc⟩] at hv
   rw [if_pos ⟨decide_eq_true hb, hc⟩, hv, if_neg (by decide), hr]
   rfl
  ·rw [if_neg (fun h => hc h.2)]
   exact hlow (fun h => hc h.2)
 ·rw [if_neg (fun h => hb (of_decide_eq_true h.1))]
  exact hlow (fun h => hb h.1)
theorem mrk_idem (l : List UInt8) : mrk (l.take (mrk l)) = mrk l := by
 cases l with
 | nil => rfl
 | cons c r =>
  by_cases h : r.head? = some 61 ∧ (c = 61 ∨ c = 33 ∨ c = 60)
  ·have hv : mrk (c :: r) = 2 := by rw [mrk_cons, if_pos h]
   rw [hv]
   cases r with
   | nil => exact absurd h.1 (by simp)
   | cons d r =>
    show mrk (c :: [d]) = 2
    rw [mrk_cons, if_pos ⟨h.1, h.2⟩]
  ·cases hm : one.contains c
   ·have hv : mrk (c :: r) = 0 := by rw [mrk_cons, if_neg h, hm]; rfl
    rw [hv]; rfl
   ·have hv : mrk (c :: r) = 1 := by rw [mrk_cons, if_neg h, hm]; rfl
    rw [hv]
    show mrk (c :: []) = 1
    rw [mrk_cons, if_neg (fun h => absurd h.1 (by simp)), if_pos hm]
end Go.Proofs.YthanoilbcdhbkaaGreatDoor.TM

namespace Go.Proofs.YthanoilbcdhbkaaGreatDoor.TM
open Go Go.Lib WM

/-! ### Digits in some places -/
def pd : Nat → Nat → List UInt8
 | 0, _ => []
 | k + 1, n => pd k (n / 10) ++ [UInt8.ofNat (48 + n % 10)]
theorem pd_length (k : Nat) : ∀ n, (pd k n).length = k := by
 induction k with
 | zero => intro n; rfl
 | succ k ih => intro n; show (pd k (n / 10) ++ [_]).length = k + 1; rw [List.length_append, ih]; rfl
theorem dig_ofNat (n : Nat) : dig (UInt8.ofNat (48 + n % 10)) = true := by
 simp only [dig, decide_eq_true_eq]
 rw [u8n (n % 10) (by omega)]; omega
theorem pd_dig (k : Nat) : ∀ n, allDig (pd k n) = true := by
 induction k with
 | zero => intro n; rfl
 | succ k ih => intro n; show allDig (pd k (n / 10) ++ [_]) = true; rw [allDig_snoc, ih, dig_ofNat]; rfl
theorem dval_pd (k : Nat) : ∀ n, n < 10 ^ k → dval (pd k n) = n := by
 induction k with
 | zero => intro n h; show 0 = n; simp at h; omega
 | succ k ih =>
  intro n h
  show dval (pd k (n / 10) ++ [_]) = n
  rw [dval_snoc, ih (n / 10) (by rw [Nat.pow_succ] at h; omega), u8n (n % 10) (by omega)]; omega
/-! ### Trailing zeros -/
theorem trim_app (l : List UInt8) (c : UInt8) : ∃ k, l = trimRightB l c ++ List.replicate k c := by
 refine ⟨(l.reverse.takeWhile (· == c)).length, ?_⟩
 have h1 : (l.reverse.takeWhile (· == c)) = List.replicate (l.reverse.takeWhile (· == c)).length c := by
  rw [List.eq_replicate_iff]
  refine ⟨rfl, fun b hb => ?_⟩
  have h2 : ∀ (m : List UInt8), b ∈ m.takeWhile (· == c) → b = c := by
   intro m
   induction m with
   | nil => intro h; exact absurd h (by simp)
   | cons a m ih =>
    rw [List.takeWhile_cons]
    split
    ·rename_i ha
     intro h
     rcases List.mem_cons.1 h with e | e
     ·rw [e]; exact eq_of_beq ha
     ·exact ih e
    ·intro h; exact absurd h (by simp)
  exact h2 _ hb
 have h3 := List.takeWhile_append_dropWhile (p := (· == c)) (l := l.reverse)
 have h4 : l = (l.reverse.dropWhile (· == c)).reverse ++ (l.reverse.takeWhile (· == c)).reverse := by
  rw [← List.reverse_append, h3, List.reverse_reverse]
 unfold trimRightB
 rw [← List.reverse_replicate, ← h1]
 exact h4
theorem trim_last (l : List UInt8) (c : UInt8) : (trimRightB l c).getLast? ≠ some c := by
 unfold trimRightB
 rw [List.getLast?_reverse]
 intro h
 have key : ∀ m : List UInt8, (m.dropWhile (· == c)).head? ≠ some c := by
  intro m
  induction m with
  | nil => simp
  | cons a m ih =>
   rw [List.dropWhile_cons]
   split
   ·exact ih
   ·rename_i ha
    intro e
    simp only [List.head?_cons, Option.some.injEq] at e
    exact ha (by rw [e]; exact beq_self_eq_true c)
 exact key _ h
/-! ### Percentages -/
def numl (l : List UInt8) : Bool := allDig l && shortB l false
def zs (k : Nat) : List UInt8 := List.replicate k 48
def tl (f : List UInt8) : List UInt8 := if f = [] then [] else 46 :: f
def deci (f : List UInt8) : Bool := decide (f.length ≤ 4) && (!f.isEmpty && allDig f) && f.getLast? != some 48
def npt (c : UInt8) : Bool := c != 46
def vl (l : List UInt8) : List UInt8 := l.take (l.length - 1)
def befo (v : List UInt8) : List UInt8 := v.takeWhile npt
def beh (v : List UInt8) : List UInt8 := (v.dropWhile npt).drop 1
def ptd (v : List UInt8) : Bool := decide (sp npt v < v.length)
def rOk (l : List UInt8) : Bool := hasSuffix l [37] && (numl (befo (vl l)) && (!ptd (vl l) || deci (beh (vl l))))
def rTx (l : List UInt8) : List UInt8 := befo (vl l) ++ beh (vl l) ++ zs (4 - (beh (vl l)).length)
def rN (l : List UInt8) : Nat := dval (rTx l)
def rE (l : List UInt8) : Int := if rOk l = true then (if rN l ≤ 1000000 then 0 else 1) else 2
def rV (l : List UInt8) : Nat := if rE l = 0 then rN l else 0
def fr (m : Nat) : List UInt8 := trimRightB (pd 4 m) 48
def pct (n : Nat) : List UInt8 := decDigits (n / 10000) ++ tl (fr (n % 10000)) ++ [37]
def Sh (d f : List UInt8) : Prop := numl d = true ∧ (f = [] ∨ deci f = true)
theorem numl_parts {d : List UInt8} (h : numl d = true) : allDig d = true ∧ shortB d false = true := by
 unfold numl at h; rwa [Bool.and_eq_true] at h
theorem deci_parts {f : List UInt8} (h : deci f = true) : f.length ≤ 4 ∧ f ≠ [] ∧ allDig f = true ∧ f.getLast? ≠ some 48 := by
 unfold deci at h
 rw [Bool.and_eq_true, Bool.and_eq_true, Bool.and_eq_true, decide_eq_true_eq, bne_iff_ne] at h
 refine ⟨h.1.1, ?_, h.1.2.2, h.2⟩
 intro e; rw [e] at h; exact absurd h.1.2.1 (by decide)
theorem sh_parts {d f : List UInt8} (h : Sh d f) : allDig d = true ∧ shortB d false = true ∧ d ≠ [] ∧ f.length ≤ 4 ∧ allDig f = true ∧ f.getLast? ≠ some 48 := by
 obtain ⟨h1, h2⟩ := numl_parts h.1
 refine ⟨h1, h2, short_ne h2, ?_⟩
 rcases h.2 with e | e
 ·subst e; exact ⟨by decide, rfl, by simp⟩
 ·obtain ⟨a, _, b, c⟩ := deci_parts e
  exact ⟨a, b, c⟩
theorem dig_npt (c : UInt8) (h : dig c = true) : npt c = true := by
 have := u8_all (fun c => !dig c || npt c) (by decide +kernel) c
 rw [h] at this; simpa using this
theorem tw_all (p : UInt8 → Bool) (l m : List UInt8) (h : l.all p = true) : (l ++ m).takeWhile p = l ++ m.takeWhile p := by
 induction l with
 | nil => rfl
 | cons c l ih =>
  rw [List.all_cons, Bool.and_eq_true] at h
  rw [List.cons_append, List.takeWhile_cons, if_pos h.1, ih h.2]; rfl
theorem dw_all (p : UInt8 → Bool) (l m : List UInt8) (h : l.all p = true) : (l ++ m).dropWhile p = m.dropWhile p := by
 induction l with
 | nil => rfl
 | cons c l ih =>
  rw [List.all_cons, Bool.and_eq_true] at h
  rw [List.cons_append, List.dropWhile_cons, if_pos h.1, ih h.2]
theorem all_npt {d : List UInt8} (h : allDig d = true) : d.all npt = true := by
 rw [allDig, List.all_eq_true] at h
 rw [List.all_eq_true]
 exact fun c hc => dig_npt c (h c hc)
theorem befo_tl {d : List UInt8} (f : List UInt8) (h : allDig d = true) : befo (d ++ tl f) = d ∧ beh (d ++ tl f) = f ∧ ptd (d ++ tl f) = !f.isEmpty := by
 have h1 := all_npt h
 unfold befo beh ptd sp
 rw [tw_all _ _ _ h1, dw_all _ _ _ h1]
 unfold tl
 by_cases hf : f = []
 ·subst hf; simp
 ·rw [if_neg hf]
  have h2 : (46 :: f).takeWhile npt = [] := by rw [List.takeWhile_cons, if_neg (by decide)]
  have h3 : (46 :: f).dropWhile npt = 46 :: f := by rw [List.dropWhile_cons, if_neg (by decide)]
  rw [h2, h3]
  refine ⟨by simp, rfl, ?_⟩
  have : f.isEmpty = false := by cases f with | nil => exact absurd rfl hf | cons a f => rfl
  rw [this]; simp
theorem vl_snoc (v : List UInt8) (c : UInt8) : vl (v ++ [c]) = v := by simp [vl]
theorem suf_snoc (v : List UInt8) : hasSuffix (v ++ [37]) [37] = true := by
 unfold hasSuffix
 rw [List.isSuffixOf_iff_suffix]
 exact List.suffix_append v [37]
theorem suf_yes {l : List UInt8} (h : hasSuffix l [37] = true) : l = vl l ++ [37] := by
 unfold hasSuffix at h
 rw [List.isSuffixOf_iff_suffix] at h
 obtain ⟨v, e⟩ := h
 rw [← e, vl_snoc]
theorem sh_ok {d f : List UInt8} (h : Sh d f) : rOk (d ++ tl f ++ [37]) = true ∧ rTx (d ++ tl f ++ [37]) = d ++ f ++ zs (4 - f.length) := by
 obtain ⟨h1, h2, _⟩ := sh_parts h
 obtain ⟨a, b, c⟩ := befo_tl f h1
 unfold rOk rTx
 rw [vl_snoc, suf_snoc, a, b, c, h.1]
 refine ⟨?_, rfl⟩
 rcases h.2 with e | e
 ·subst e; rfl
 ·rw [e]; simp
theorem ok_sh {l : List UInt8} (h : rOk l = true) : ∃ d f, Sh d f ∧ l = d ++ tl f ++ [37] := by
 unfold rOk at h
 rw [Bool.and_eq_true, Bool.and_eq_true] at h
 obtain ⟨h1, h2, h3⟩ := h
 have e := suf_yes h1
 generalize vl l = v at *
 have e2 : v = befo v ++ v.dropWhile npt := (List.takeWhile_append_dropWhile).symm
 cases hp : ptd v
 ·refine ⟨befo v, [], ⟨h2, Or.inl rfl⟩, ?_⟩
  unfold ptd at hp
  rw [decide_eq_false_iff_not] at hp
  have h4 : v.dropWhile npt = [] := by rw [← drop_sp, List.drop_eq_nil_iff]; omega
  rw [e]
  show v ++ [37] = befo v ++ [] ++ [37]
  rw [List.append_nil]
  rw [h4, List.append_nil] at e2
  rw [← e2]
 ·rw [hp, Bool.not_true, Bool.false_or] at h3
  obtain ⟨_, hne, _⟩ := deci_parts h3
  refine ⟨befo v, beh v, ⟨h2, Or.inr h3⟩, ?_⟩
  rw [e]
  have h5 : v.dropWhile npt = 46 :: beh v := by
   unfold ptd at hp
   rw [decide_eq_true_eq] at hp
   have h6 := sp_stop npt v hp
   have h7 : v.dropWhile npt = v[sp npt v] :: v.drop (sp npt v + 1) := by rw [← drop_sp]; exact List.drop_eq_getElem_cons hp
   have h8 : v[sp npt v] = 46 := by
    generalize v[sp npt v] = q at h6
    unfold npt at h6
    simpa using h6
   unfold beh
   rw [h7, h8]; rfl
  unfold tl
  rw [if_neg hne, ← h5, ← e2]
theorem zs_dig (k : Nat) : allDig (zs k) = true := by
 rw [allDig, List.all_eq_true]
 intro c hc
 rw [(List.mem_replicate.1 hc).2]; decide
theorem rE_of {d f : List UInt8} (h : Sh d f) : rE (d ++ tl f ++ [37]) = if dval (d ++ f ++ zs (4 - f.length)) ≤ 1000000 then 0 else 1 := by
 unfold rE rN
 rw [(sh_ok h).1, (sh_ok h).2, if_pos rfl]
theorem four {d f : List UInt8} (h : Sh d f) : dval (d ++ f ++ zs (4 - f.length)) = dval d * 10000 + dval (f ++ zs (4 - f.length)) ∧ dval (f ++ zs (4 - f.length)) < 10000 ∧ (f ++ zs (4 - f.length)).length = 4 ∧ allDig (f ++ zs (4 - f.length)) = true := by
 obtain ⟨_, _, _, h4, h5, _⟩ := sh_parts h
 have hl : (f ++ zs (4 - f.length)).length = 4 := by rw [List.length_append]; unfold zs; rw [List.length_replicate]; omega
 have ha : allDig (f ++ zs (4 - f.length)) = true := by rw [allDig_app, h5, zs_dig]; rfl
 have hv := dval_lt _ ha
 rw [hl] at hv
 refine ⟨?_, hv, hl, ha⟩
 rw [List.append_assoc]
 show dvalA 0 (d ++ _) = _
 rw [dvalA_app, dvalA_eq, hl]; rfl
theorem fr_parts (m : Nat) : (fr m = [] ∨ deci (fr m) = true) ∧ fr m ++ zs (4 - (fr m).length) = pd 4 m := by
 obtain ⟨k, hk⟩ := trim_app (pd 4 m) 48
 have hlast := trim_last (pd 4 m) 48
 have hl := pd_length 4 m
 have hd := pd_dig 4 m
 have e : fr m = trimRightB (pd 4 m) 48 := rfl
 rw [← e] at hk hlast
 have h1 := hl
 rw [hk, List.length_append, List.length_replicate] at h1
 have hk4 : k = 4 - (fr m).length := by omega
 rw [hk4] at hk
 refine ⟨?_, hk.symm⟩
 by_cases hf : fr m = []
 ·exact Or.inl hf
 ·refine Or.inr ?_
  rw [hk, allDig_app, Bool.and_eq_true] at hd
  unfold deci
  have h2 : (fr m).isEmpty = false := by cases h : fr m with | nil => exact absurd h hf | cons a b => rfl
  rw [h2, hd.1, decide_eq_true (by omega), bne_iff_ne.2 hlast]; rfl
theorem numl_dec (n : Nat) : numl (decDigits n) = true := by unfold numl; rw [allDig_dec, short_dec]; rfl
theorem rate_pct (n : Nat) (h : n ≤ 1000000) : rE (pct n) = 0 ∧ rV (pct n) = n := by
 obtain ⟨h1, h2⟩ := fr_parts (n % 10000)
 have hs : Sh (decDigits (n / 10000)) (fr (n % 10000)) := ⟨numl_dec _, h1⟩
 have hv : dval (decDigits (n / 10000) ++ fr (n % 10000) ++ zs (4 - (fr (n % 10000)).length)) = n := by
  rw [(four hs).1, h2, dval_dec, dval_pd 4 _ (Nat.mod_lt _ (by decide))]; omega
 have h3 : rE (pct n) = 0 := by
  unfold pct
  rw [rE_of hs, hv, if_pos h]
 refine ⟨h3, ?_⟩
 unfold rV
 rw [if_pos h3]
 unfold rN pct
 rw [(sh_ok hs).2, hv]
/-! ### The document's form -/
end Go.Proofs.YthanoilbcdhbkaaGreatDoor.TM

namespace Go.Proofs.YthanoilbcdhbkaaGreatDoor.TM
open Go Go.Lib WM

/-! ### The first token -/
abbrev Tok := Int × Int × List UInt8
def hd (l : List UInt8) : UInt8 := l.headD 0
def tx (l : List UInt8) : List UInt8 := if isL (hd l) = true then l.takeWhile isW else if dig (hd l) = true then l.takeWhile isN else l.take (mrk l)
def knd (l : List UInt8) : Int := if isL (hd l) = true then (if wrd (tx l) = true then 5 else 1) else if dig (hd l) = true then (if numl (tx l) = true then 2 else 3) else 4
def nerr (x : List UInt8) : Int := if numl x = true then (if dval x ≤ 9223372036854775807 then 0 else 6) else if rE x = 0 then 0 else if rE x = 1 then 6 else 2
def nmerr (x : List UInt8) : Int := if wrd x = true then 0 else if 16 < x.length then 4 else 0
def err (l : List UInt8) : Int := if isL (hd l) = true then nmerr (tx l) else if dig (hd l) = true then nerr (tx l) else if mrk l = 0 then 2 else 0
theorem isL_W (c : UInt8) (h : isL c = true) : isW c = true := by simp [isW, h]
theorem tx_le (l : List UInt8) : (tx l).length ≤ l.length := by
 unfold tx
 split
 ·exact (List.takeWhile_sublist _).length_le
 ·split
  ·exact (List.takeWhile_sublist _).length_le
  ·rw [List.length_take]; exact Nat.min_le_right _ _
theorem tx_cons (c : UInt8) (r : List UInt8) (h : err (c :: r) = 0) : ∃ x, tx (c :: r) = c :: x := by
 have hh : hd (c :: r) = c := rfl
 unfold err at h
 unfold tx
 rw [hh] at h ⊢
 by_cases h1 : isL c = true
 ·rw [if_pos h1, tw_cons_pos _ _ _ (isL_W c h1)]; exact ⟨_, rfl⟩
 ·rw [if_neg h1] at h ⊢
  by_cases h2 : dig c = true
  ·rw [if_pos h2, tw_cons_pos _ _ _ (dig_N c h2)]; exact ⟨_, rfl⟩
  ·rw [if_neg h2] at h ⊢
   by_cases h3 : mrk (c :: r) = 0
   ·rw [if_pos h3] at h; exact absurd h (by decide)
   ·obtain ⟨k, hk⟩ : ∃ k, mrk (c :: r) = k + 1 := ⟨mrk (c :: r) - 1, by omega⟩
    rw [hk, List.take_succ_cons]; exact ⟨_, rfl⟩
theorem tx_idem (c : UInt8) (r : List UInt8) (h : err (c :: r) = 0) : tx (tx (c :: r)) = tx (c :: r) ∧ knd (tx (c :: r)) = knd (c :: r) ∧ err (tx (c :: r)) = 0 := by
 obtain ⟨x, hx⟩ := tx_cons c r h
 have e1 : hd (tx (c :: r)) = c := by rw [hx]; rfl
 have e2 : hd (c :: r) = c := rfl
 have ht : tx (tx (c :: r)) = tx (c :: r) := by
  rw [tx, e1]
  unfold tx
  rw [e2]
  by_cases h1 : isL c = true
  ·rw [if_pos h1, if_pos h1, tw_idem]
  ·rw [if_neg h1, if_neg h1]
   by_cases h2 : dig c = true
   ·rw [if_pos h2, if_pos h2, tw_idem]
   ·rw [if_neg h2, if_neg h2, mrk_idem, List.take_take, Nat.min_self]
 refine ⟨ht, ?_, ?_⟩
 ·rw [knd, ht, e1]
  unfold knd
  rw [e2]
 ·rw [err, ht, e1]
  rw [err, e2] at h
  by_cases h1 : isL c = true
  ·rw [if_pos h1] at h ⊢; exact h
  ·rw [if_neg h1] at h ⊢
   by_cases h2 : dig c = true
   ·rw [if_pos h2] at h ⊢; exact h
   ·rw [if_neg h2] at h ⊢
    have : tx (c :: r) = (c :: r).take (mrk (c :: r)) := by unfold tx; rw [e2, if_neg h1, if_neg h2]
    rw [this, mrk_idem]; exact h

/-! ### All tokens -/
def nlf (c : UInt8) : Bool := c != 10
def psh (t : Tok) (q : List Tok × Int × Int) : List Tok × Int × Int := if q.2.2 = 0 then (t :: q.1, 0, 0) else q
def tk : Nat → Int → List UInt8 → List Tok × Int × Int
 | 0, _, _ => ([], 0, 0)
 | _ + 1, _, [] => ([], 0, 0)
 | n + 1, ln, c :: r =>
  if c = 10 then tk n (ln + 1) r
  else if c = 32 ∨ c = 9 then tk n ln r
  else if c = 35 then tk n ln (r.dropWhile nlf)
  else if err (c :: r) ≠ 0 then ([], ln, err (c :: r))
  else psh (knd (c :: r), ln, tx (c :: r)) (tk n ln ((c :: r).drop (tx (c :: r)).length))
def TK (ln : Int) (l : List UInt8) : List Tok × Int × Int := tk l.length ln l
theorem dw_le (p : UInt8 → Bool) (l : List UInt8) : (l.dropWhile p).length ≤ l.length := (List.dropWhile_sublist p).length_le
theorem tk_fuel : ∀ (n m : Nat) (ln : Int) (l : List UInt8), l.length ≤ n → l.length ≤ m → tk n ln l = tk m ln l := by
 intro n
 induction n with
 | zero =>
  intro m ln l h _
  rw [List.eq_nil_of_length_eq_zero (Nat.le_zero.1 h)]
  cases m <;> rfl
 | succ n ih =>
  intro m ln l h1 h2
  cases l with
  | nil => cases m <;> rfl
  | cons c r =>
   cases m with
   | zero => exact absurd h2 (by simp)
   | succ m =>
    rw [List.length_cons] at h1 h2
    unfold tk
    have hd1 := dw_le nlf r
    rw [ih m (ln + 1) r (by omega) (by omega), ih m ln r (by omega) (by omega), ih m ln (r.dropWhile nlf) (by omega) (by omega)]
    by_cases he : err (c :: r) = 0
    ·obtain ⟨x, hx⟩ := tx_cons c r he
     have h3 : ((c :: r).drop (tx (c :: r)).length).length ≤ r.length := by rw [hx, List.length_drop, List.length_cons, List.length_cons]; omega
     rw [ih m ln _ (by omega) (by omega)]
    ·rw [if_pos he, if_pos he]
theorem TK_nil (ln : Int) : TK ln [] = ([], 0, 0) := rfl
theorem TK_feed (ln : Int) (r : List UInt8) : TK ln (10 :: r) = TK (ln + 1) r := rfl
theorem TK_blank (ln : Int) (c : UInt8) (r : List UInt8) (h : c = 32 ∨ c = 9) : TK ln (c :: r) = TK ln r := by
 unfold TK
 rw [List.length_cons, tk, if_neg (by rcases h with e | e <;> rw [e] <;> decide), if_pos h]
theorem TK_hash (ln : Int) (r : List UInt8) : TK ln (35 :: r) = TK ln (r.dropWhile nlf) := by
 unfold TK
 rw [List.length_cons, tk, if_neg (by decide), if_neg (by decide), if_pos rfl]
 exact tk_fuel _ _ _ _ (dw_le nlf r) (Nat.le_refl _)
def beg (c : UInt8) : Prop := c ≠ 10 ∧ ¬ (c = 32 ∨ c = 9) ∧ c ≠ 35
theorem TK_err (ln : Int) (c : UInt8) (r : List UInt8) (hb : beg c) (h : err (c :: r) ≠ 0) : TK ln (c :: r) = ([], ln, err (c :: r)) := by
 unfold TK
 rw [List.length_cons, tk, if_neg hb.1, if_neg hb.2.1, if_neg hb.2.2, if_pos h]
theorem TK_tok (ln : Int) (c : UInt8) (r : List UInt8) (hb : beg c) (h : err (c :: r) = 0) : TK ln (c :: r) = psh (knd (c :: r), ln, tx (c :: r)) (TK ln ((c :: r).drop (tx (c :: r)).length)) := by
 unfold TK
 rw [List.length_cons, tk, if_neg hb.1, if_neg hb.2.1, if_neg hb.2.2, if_neg (fun e => e h)]
 obtain ⟨x, hx⟩ := tx_cons c r h
 rw [tk_fuel r.length _ ln _ (by rw [hx, List.length_drop, List.length_cons, List.length_cons]; omega) (Nat.le_refl _)]
theorem TK_ind (P : List UInt8 → Prop) (h0 : P []) (h1 : ∀ r, P r → P (10 :: r)) (h2 : ∀ c r, c = 32 ∨ c = 9 → P r → P (c :: r)) (h3 : ∀ r, P (r.dropWhile nlf) → P (35 :: r))
  (h4 : ∀ c r, beg c → err (c :: r) ≠ 0 → P (c :: r)) (h5 : ∀ c r, beg c → err (c :: r) = 0 → P ((c :: r).drop (tx (c :: r)).length) → P (c :: r)) (l : List UInt8) : P l := by
 have key : ∀ (n : Nat) (l : List UInt8), l.length ≤ n → P l := by
  intro n
  induction n with
  | zero => intro l h; rw [List.eq_nil_of_length_eq_zero (Nat.le_zero.1 h)]; exact h0
  | succ n ih =>
   intro l h
   cases l with
   | nil => exact h0
   | cons c r =>
    rw [List.length_cons] at h
    by_cases a1 : c = 10
    ·rw [a1]; exact h1 r (ih r (by omega))
    ·by_cases a2 : c = 32 ∨ c = 9
     ·exact h2 c r a2 (ih r (by omega))
     ·by_cases a3 : c = 35
      ·rw [a3]; exact h3 r (ih _ (by have := dw_le nlf r; omega))
      ·by_cases a4 : err (c :: r) = 0
       ·refine h5 c r ⟨a1, a2, a3⟩ a4 (ih _ ?_)
        obtain ⟨x, hx⟩ := tx_cons c r a4
        rw [hx, List.length_drop, List.length_cons, List.length_cons]; omega
       ·exact h4 c r ⟨a1, a2, a3⟩ a4
 exact key l.length l (Nat.le_refl _)
theorem TK_good (l : List UInt8) : ∀ ln, (TK ln l).2.2 = 0 → (TK ln l).2.1 = 0 := by
 induction l using TK_ind with
 | h0 => intro ln _; rfl
 | h1 r ih => intro ln; rw [TK_feed]; exact ih _
 | h2 c r h ih => intro ln; rw [TK_blank ln c r h]; exact ih _
 | h3 r ih => intro ln; rw [TK_hash]; exact ih _
 | h4 c r hb h => intro ln; rw [TK_err ln c r hb h]; exact fun e => absurd e h
 | h5 c r hb h ih =>
  intro ln
  rw [TK_tok ln c r hb h]
  unfold psh
  split
  ·intro _; rfl
  ·rename_i hq; exact fun e => absurd e hq
theorem TK_bad (l : List UInt8) : ∀ ln, (TK ln l).2.2 ≠ 0 → (TK ln l).1 = [] := by
 induction l using TK_ind with
 | h0 => intro ln _; rfl
 | h1 r ih => intro ln; rw [TK_feed]; exact ih _
 | h2 c r h ih => intro ln; rw [TK_blank ln c r h]; exact ih _
 | h3 r ih => intro ln; rw [TK_hash]; exact ih _
 | h4 c r hb h => intro ln; rw [TK_err ln c r hb h]; exact fun _ => rfl
 | h5 c r hb h ih =>
  intro ln
  rw [TK_tok ln c r hb h]
  unfold psh
  split
  ·intro e; exact absurd rfl e
  ·intro e; exact ih ln e
def cmb (acc : List Tok) (q : List Tok × Int × Int) : List Tok × Int × Int := if q.2.2 = 0 then (acc ++ q.1, 0, 0) else ([], q.2.1, q.2.2)
theorem cmb_psh (acc : List Tok) (t : Tok) (q : List Tok × Int × Int) : cmb acc (psh t q) = cmb (acc ++ [t]) q := by
 unfold cmb psh
 by_cases h : q.2.2 = 0
 ·rw [if_pos h, if_pos h, if_pos rfl]; simp
 ·rw [if_neg h, if_neg h, if_neg h]
theorem cmb_nil (ln : Int) (l : List UInt8) : cmb [] (TK ln l) = TK ln l := by
 unfold cmb
 by_cases h : (TK ln l).2.2 = 0
 ·rw [if_pos h, List.nil_append]
  have h2 := TK_good l ln h
  exact Prod.ext rfl (Prod.ext h2.symm h.symm)
 ·rw [if_neg h]
  have h2 := TK_bad l ln h
  exact Prod.ext h2.symm rfl
theorem TK_len (l : List UInt8) : ∀ ln, ∀ u ∈ (TK ln l).1, u.2.2.length ≤ l.length := by
 induction l using TK_ind with
 | h0 => intro ln u hu; exact absurd hu (by simp [TK_nil])
 | h1 r ih => intro ln u hu; rw [TK_feed] at hu; have := ih _ u hu; rw [List.length_cons]; omega
 | h2 c r h ih => intro ln u hu; rw [TK_blank ln c r h] at hu; have := ih _ u hu; rw [List.length_cons]; omega
 | h3 r ih => intro ln u hu; rw [TK_hash] at hu; have := ih _ u hu; have := dw_le nlf r; rw [List.length_cons]; omega
 | h4 c r hb h => intro ln u hu; rw [TK_err ln c r hb h] at hu; exact absurd hu (by simp)
 | h5 c r hb h ih =>
  intro ln u hu
  rw [TK_tok ln c r hb h] at hu
  unfold psh at hu
  split at hu
  ·rcases List.mem_cons.1 hu with e | e
   ·rw [e]; exact tx_le _
   ·have := ih _ u e; rw [List.length_drop] at this; omega
  ·have := ih _ u hu; rw [List.length_drop] at this; omega
/-! ### A token alone -/
def pr (t : Tok) : Int × List UInt8 := (t.1, t.2.2)
def aln (t : Tok) : Bool := decide ((TK 1 t.2.2).1.map pr = [(t.1, t.2.2)])
theorem aln_parts {t : Tok} (h : aln t = true) : ∃ c x, t.2.2 = c :: x ∧ beg c ∧ err (c :: x) = 0 ∧ tx (c :: x) = c :: x ∧ knd (c :: x) = t.1 := by
 unfold aln at h
 rw [decide_eq_true_eq] at h
 cases e : t.2.2 with
 | nil => rw [e, TK_nil] at h; exact absurd h (by simp)
 | cons c x =>
  rw [e] at h
  have big : ∀ (l : List UInt8) (ln : Int), (TK ln l).1.map pr = [(t.1, c :: x)] → x.length < l.length := by
   intro l ln h
   have hm : (t.1, c :: x) ∈ (TK ln l).1.map pr := by rw [h]; exact List.mem_cons_self
   obtain ⟨u, hu, he⟩ := List.mem_map.1 hm
   have h1 := TK_len l ln u hu
   have h2 : u.2.2 = c :: x := congrArg Prod.snd he
   rw [h2, List.length_cons] at h1; omega
  by_cases a1 : c = 10
  ·subst a1; rw [TK_feed] at h; exact absurd (big _ _ h) (by omega)
  ·by_cases a2 : c = 32 ∨ c = 9
   ·rw [TK_blank _ c x a2] at h; exact absurd (big _ _ h) (by omega)
   ·by_cases a3 : c = 35
    ·subst a3; rw [TK_hash] at h; exact absurd (big _ _ h) (by have := dw_le nlf x; omega)
    ·have hb : beg c := ⟨a1, a2, a3⟩
     by_cases a4 : err (c :: x) = 0
     ·refine ⟨c, x, rfl, hb, a4, ?_⟩
      rw [TK_tok _ c x hb a4] at h
      unfold psh at h
      split at h
      ·simp only [List.map_cons, pr, List.cons.injEq, Prod.mk.injEq] at h
       exact ⟨h.1.2, h.1.1⟩
      ·rename_i hq
       rw [TK_bad _ _ hq] at h; exact absurd h (by simp)
     ·rw [TK_err _ c x hb a4] at h; exact absurd h (by simp)
theorem aln_tok (c : UInt8) (r : List UInt8) (ln : Int) (hb : beg c) (h : err (c :: r) = 0) : aln (knd (c :: r), ln, tx (c :: r)) = true := by
 obtain ⟨e1, e2, e3⟩ := tx_idem c r h
 obtain ⟨x, hx⟩ := tx_cons c r h
 unfold aln
 rw [decide_eq_true_eq]
 show (TK 1 (tx (c :: r))).1.map pr = [(knd (c :: r), tx (c :: r))]
 rw [← e2]
 generalize tx (c :: r) = y at *
 subst hx
 rw [TK_tok 1 c x hb e3, e1, List.drop_length, TK_nil]
 rfl
/-! ### A text of tokens -/
end Go.Proofs.YthanoilbcdhbkaaGreatDoor.TM

namespace Go.Proofs.YthanoilbcdhbkaaGreatDoor.TM
open Go Go.Lib WM

theorem atoi_dig (l : List UInt8) (hs : l ≠ []) (ha : allDig l = true) : atoiAll l = if dval l ≤ 9223372036854775807 then .ok (dval l : Int) else .range := by
 have hm := parse_mag l hs ha
 cases l with
 | nil => exact absurd rfl hs
 | cons c t =>
  have hc : dig c = true := by simp only [allDig, List.all_cons, Bool.and_eq_true] at ha; exact ha.1
  simp only [dig, decide_eq_true_eq] at hc
  rw [atoiAll_plain c t (by omega) (by omega), hm]
  unfold signless
  by_cases q : dval (c :: t) < 18446744073709551616
  ·rw [if_pos q]
   by_cases q2 : 9223372036854775808 ≤ dval (c :: t)
   ·rw [if_neg (by omega)]; simp only [if_pos q2]
   ·rw [if_pos (by omega)]; simp only [if_neg q2]
  ·rw [if_neg q, if_neg (by omega)]
theorem parse_digM : ∀ (l : List UInt8) (a : Nat), allDig l = true → a < 18446744073709551616 → parseUintM 18446744073709551615 a l = if dvalA a l < 18446744073709551616 then .ok (dvalA a l) else .range
 | [], a, _, ha => by
  have e : dvalA a [] = a := rfl
  rw [e, if_pos ha]; rfl
 | c :: r, a, h, ha => by
  simp only [allDig, List.all_cons, Bool.and_eq_true] at h
  have hc := h.1
  simp only [dig, decide_eq_true_eq] at hc
  have e : dvalA a (c :: r) = dvalA (a * 10 + (c.toNat - 48)) r := rfl
  have hm : a * 10 + (c.toNat - 48) ≤ dvalA a (c :: r) := by
   rw [e, dvalA_eq]
   have : 1 ≤ 10 ^ r.length := Nat.one_le_pow _ _ (by decide)
   have := Nat.mul_le_mul_left (a * 10 + (c.toNat - 48)) this
   omega
  simp only [parseUintM]
  rw [if_pos (by omega)]
  by_cases h1 : 1844674407370955162 ≤ a
  ·rw [if_pos h1, if_neg (by omega)]
  ·rw [if_neg h1]
   by_cases h2 : 18446744073709551615 < a * 10 + (c.toNat - 48)
   ·rw [if_pos h2, if_neg (by omega)]
   ·rw [if_neg h2, e]
    exact parse_digM r _ h.2 (by omega)
theorem parse64_dig (l : List UInt8) (hs : l ≠ []) (ha : allDig l = true) : parseIntB 64 l = if dval l ≤ 9223372036854775807 then .ok (dval l : Int) else .range := by
 have hm := parse_digM l 0 ha (by decide)
 cases l with
 | nil => exact absurd rfl hs
 | cons c t =>
  have hc : dig c = true := by simp only [allDig, List.all_cons, Bool.and_eq_true] at ha; exact ha.1
  simp only [dig, decide_eq_true_eq] at hc
  have h1 : ¬ (c.toNat = 43 ∨ c.toNat = 45) := by omega
  have h2 : ¬ c.toNat = 45 := by omega
  have h3 : parseUintB 64 (c :: t) = if dval (c :: t) < 18446744073709551616 then .ok (dval (c :: t)) else .range := by
   unfold parseUintB
   rw [if_neg (by simp)]
   exact hm
  unfold parseIntB
  simp only [if_neg h1, h3]
  by_cases q : dval (c :: t) < 18446744073709551616
  ·rw [if_pos q]
   by_cases q2 : dval (c :: t) ≤ 9223372036854775807
   ·rw [if_pos q2]
    simp only [h2]
    rw [if_neg (by omega), if_neg (by simp)]
    simp
   ·rw [if_neg q2]
    simp only [h2]
    rw [if_pos ⟨by simp, by omega⟩]
  ·rw [if_neg q, if_neg (by omega)]
theorem idx_sp (d : UInt8) (l : List UInt8) : Lib.indexByte l d = if sp (fun c => c != d) l < l.length then ((sp (fun c => c != d) l : Nat) : Int) else -1 := by
 induction l with
 | nil => rfl
 | cons c r ih =>
  unfold Lib.indexByte
  by_cases h : c = d
  ·subst h
   have : sp (fun x => x != c) (c :: r) = 0 := by unfold sp; rw [List.takeWhile_cons]; simp
   rw [this]; simp
  ·have hb : (c == d) = false := by rw [beq_eq_false_iff_ne]; exact h
   have : sp (fun x => x != d) (c :: r) = sp (fun x => x != d) r + 1 := by
    unfold sp
    rw [List.takeWhile_cons, if_pos (by rw [bne_iff_ne]; exact h)]; rfl
   rw [this, hb, ih, List.length_cons]
   generalize sp (fun x => x != d) r = N
   by_cases hl : N < r.length
   ·rw [if_pos hl]
    have h1 : ((N : Int) == -1) = false := by rw [beq_eq_false_iff_ne]; omega
    have h2 : (if N + 1 < r.length + 1 then (((N + 1 : Nat)) : Int) else -1) = ((N + 1 : Nat) : Int) := if_pos (by omega)
    rw [h2]
    show (if ((N : Int) == -1) = true then (-1 : Int) else (N : Int) + 1) = _
    rw [h1]
    show (N : Int) + 1 = _
    omega
   ·rw [if_neg hl]
    have h2 : (if N + 1 < r.length + 1 then (((N + 1 : Nat)) : Int) else -1) = -1 := if_neg (by omega)
    rw [h2]
    rfl
theorem rep_one (c : UInt8) : ∀ k, repeatL [c] k = List.replicate k c
 | 0 => rfl
 | k + 1 => by
  show [c] ++ repeatL [c] k = _
  rw [rep_one c k, List.replicate_succ]; rfl
theorem sp_dig_all (l : List UInt8) : (sp dig l = l.length) ↔ allDig l = true := by
 constructor
 ·intro h
  rw [allDig, List.all_eq_true]
  intro c hc
  obtain ⟨j, hj, e⟩ := List.getElem_of_mem hc
  obtain ⟨_, h2⟩ := sp_lt dig l j (by omega)
  rw [e] at h2; exact h2
 ·intro h
  rw [allDig, List.all_eq_true] at h
  exact sp_all dig l (fun j hj => h _ (List.getElem_mem hj))
end Go.Proofs.YthanoilbcdhbkaaGreatDoor.TM

namespace Go.Proofs.YthanoilbcdhbkaaGreatDoor.TM
open Go Go.Lib WM

/-! ### Numbers above the greatest int -/
/-! ### A percentage's digits, one by one -/
/-! ### Whole texts -/
def TZ (l : List UInt8) : List Tok × Int × Int := if 2048 < l.length then ([], 0, 5) else TK 1 l
theorem TZ_small {l : List UInt8} (h : l.length ≤ 2048) : TZ l = TK 1 l := by unfold TZ; rw [if_neg (by omega)]
end Go.Proofs.YthanoilbcdhbkaaGreatDoor.TM

namespace Go.Proofs.YthanoilbcdhbkaaGreatDoor
open Go Go.RowKit Go.Lib WM TM

theorem bal {w w' : World} (h : Below w.heap.size w w') (o : Obj) : Below w.heap.size w (w'.alloc o) := h.alloc h.size _
theorem btr {w w' w'' : World} (h : Below w.heap.size w w') (k : Below w'.heap.size w' w'') : Below w.heap.size w w'' := h.trans (k.mono h.size)
theorem bref (w : World) : Below w.heap.size w w := Below.refl _ _
theorem bdr {w w' : World} (h : Below w.heap.size w w') : Below w.heap.size w w'.drew := h.drew
theorem bdn {w w' : World} (h : Below w.heap.size w w') (n : Nat) : Below w.heap.size w (w'.drewN n) := ⟨h.os, h.tape, h.output, h.size, h.block⟩

theorem str_nil : str [] = ⟨#[]⟩ := rfl
theorem bset {w w' : World} {a : Addr} (h : Below w.heap.size w w') (hb : w.heap.size ≤ a.block) (v : Value) : Below w.heap.size w (w'.setCell a v) := h.setCell hb v
theorem keepc {W w1 : World} {p : Addr} {x : Value} (hb : Below W.heap.size W w1) (h : W.cell? p = some x) : w1.cell? p = some x :=
 (hb.cell (World.block_lt_of_cell? W _ h)).trans h
theorem keepf {W w1 : World} {p : Addr} {x : Value} {f : Bool} (hb : Below W.heap.size W w1) (h : W.cell? p = some x) (hf : W.frozen? p = f) : w1.frozen? p = f := by
 have h1 := hb.block p.block (World.block_lt_of_cell? W _ h)
 unfold World.frozen? at *
 rw [h1]; exact hf
end Go.Proofs.YthanoilbcdhbkaaGreatDoor
