/-
  Tokens: the library's readings at digits, cuts at a byte, repeated bytes, plain.
-/
import Derived.Test.YtcnnkobiijhegaaDoorTK
import Derived.Lib.ParseIntB
import Derived.Lib.Repeat
namespace Go.Proofs.YtcnnkobiijhegaaDoor.TM
open Go Go.Lib WM

theorem atoi_dig (l : List UInt8) (hs : l ≠ []) (ha : allDig l = true) : atoiAll l = if dval l ≤ 9223372036854775807 then .ok (dval l : Int) else .range := by
  have hm := parse_mag l hs ha
  cases l with
  | nil => exact absurd rfl hs
  | cons c t =>
    have hc : dig c = true := by simp only [allDig, List.all_cons, Bool.and_eq_true] at ha; exact ha.1
    simp only [dig, decide_eq_true_eq] at hc
    rw [atoiAll_plain c t (by omega) (by omega), hm]
    unfold signless
    by_cases q : dval (c :: t) < 18446744073709551616
    · rw [if_pos q]
      by_cases q2 : 9223372036854775808 ≤ dval (c :: t)
      · rw [if_neg (by omega)]; simp only [if_pos q2]
      · rw [if_pos (by omega)]; simp only [if_neg q2]
    · rw [if_neg q, if_neg (by omega)]
theorem parse_digM : ∀ (l : List UInt8) (a : Nat), allDig l = true → a < 18446744073709551616 → parseUintM 18446744073709551615 a l = if dvalA a l < 18446744073709551616 then .ok (dvalA a l) else .range
  | [], a, _, ha => by
    have e : dvalA a [] = a := rfl
    rw [e, if_pos ha]; rfl
  | c :: r, a, h, ha => by
    simp only [allDig, List.all_cons, Bool.and_eq_true] at h
    have hc := h.1
    simp only [dig, decide_eq_true_eq] at hc
    have e : dvalA a (c :: r) = dvalA (a * 10 + (c.toNat - 48)) r := rfl
    have hm : a * 10 + (c.toNat - 48) ≤ dvalA a (c :: r) := by
      rw [e, dvalA_eq]
      have : 1 ≤ 10 ^ r.length := Nat.one_le_pow _ _ (by decide)
      have := Nat.mul_le_mul_left (a * 10 + (c.toNat - 48)) this
      omega
    simp only [parseUintM]
    rw [if_pos (by omega)]
    by_cases h1 : 1844674407370955162 ≤ a
    · rw [if_pos h1, if_neg (by omega)]
    · rw [if_neg h1]
      by_cases h2 : 18446744073709551615 < a * 10 + (c.toNat - 48)
      · rw [if_pos h2, if_neg (by omega)]
      · rw [if_neg h2, e]
        exact parse_digM r _ h.2 (by omega)
theorem parse64_dig (l : List UInt8) (hs : l ≠ []) (ha : allDig l = true) : parseIntB 64 l = if dval l ≤ 9223372036854775807 then .ok (dval l : Int) else .range := by
  have hm := parse_digM l 0 ha (by decide)
  cases l with
  | nil => exact absurd rfl hs
  | cons c t =>
    have hc : dig c = true := by simp only [allDig, List.all_cons, Bool.and_eq_true] at ha; exact ha.1
    simp only [dig, decide_eq_true_eq] at hc
    have h1 : ¬ (c.toNat = 43 ∨ c.toNat = 45) := by omega
    have h2 : ¬ c.toNat = 45 := by omega
    have h3 : parseUintB 64 (c :: t) = if dval (c :: t) < 18446744073709551616 then .ok (dval (c :: t)) else .range := by
      unfold parseUintB
      rw [if_neg (by simp)]
      exact hm
    unfold parseIntB
    simp only [if_neg h1, h3]
    by_cases q : dval (c :: t) < 18446744073709551616
    · rw [if_pos q]
      by_cases q2 : dval (c :: t) ≤ 9223372036854775807
      · rw [if_pos q2]
        simp only [h2]
        rw [if_neg (by omega), if_neg (by simp)]
        simp
      · rw [if_neg q2]
        simp only [h2]
        rw [if_pos ⟨by simp, by omega⟩]
    · rw [if_neg q, if_neg (by omega)]
theorem idx_sp (d : UInt8) (l : List UInt8) : Lib.indexByte l d = if sp (fun c => c != d) l < l.length then ((sp (fun c => c != d) l : Nat) : Int) else -1 := by
  induction l with
  | nil => rfl
  | cons c r ih =>
    unfold Lib.indexByte
    by_cases h : c = d
    · subst h
      have : sp (fun x => x != c) (c :: r) = 0 := by unfold sp; rw [List.takeWhile_cons]; simp
      rw [this]; simp
    · have hb : (c == d) = false := by rw [beq_eq_false_iff_ne]; exact h
      have : sp (fun x => x != d) (c :: r) = sp (fun x => x != d) r + 1 := by
        unfold sp
        rw [List.takeWhile_cons, if_pos (by rw [bne_iff_ne]; exact h)]; rfl
      rw [this, hb, ih, List.length_cons]
      generalize sp (fun x => x != d) r = N
      by_cases hl : N < r.length
      · rw [if_pos hl]
        have h1 : ((N : Int) == -1) = false := by rw [beq_eq_false_iff_ne]; omega
        have h2 : (if N + 1 < r.length + 1 then (((N + 1 : Nat)) : Int) else -1) = ((N + 1 : Nat) : Int) := if_pos (by omega)
        rw [h2]
        show (if ((N : Int) == -1) = true then (-1 : Int) else (N : Int) + 1) = _
        rw [h1]
        show (N : Int) + 1 = _
        omega
      · rw [if_neg hl]
        have h2 : (if N + 1 < r.length + 1 then (((N + 1 : Nat)) : Int) else -1) = -1 := if_neg (by omega)
        rw [h2]
        rfl
theorem rep_one (c : UInt8) : ∀ k, repeatL [c] k = List.replicate k c
  | 0 => rfl
  | k + 1 => by
    show [c] ++ repeatL [c] k = _
    rw [rep_one c k, List.replicate_succ]; rfl
theorem sp_dig_all (l : List UInt8) : (sp dig l = l.length) ↔ allDig l = true := by
  constructor
  · intro h
    rw [allDig, List.all_eq_true]
    intro c hc
    obtain ⟨j, hj, e⟩ := List.getElem_of_mem hc
    obtain ⟨_, h2⟩ := sp_lt dig l j (by omega)
    rw [e] at h2; exact h2
  · intro h
    rw [allDig, List.all_eq_true] at h
    exact sp_all dig l (fun j hj => h _ (List.getElem_mem hj))
end Go.Proofs.YtcnnkobiijhegaaDoor.TM
