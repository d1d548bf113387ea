/-
  The contract of the document's own Parse of an amount.
-/
import Derived.Test.YtkijbckpfcfcpabDoorMRefF
import Derived.Test.YtkijbckpfcfcpabDoorMParse
namespace Go.Proofs.YtkijbckpfcfcpabDoor
open Go Go.RowKit Go.Lib WM

/-- The first k characters, without that at p. -/
def Dk (u : List UInt8) (p k : Nat) : List UInt8 := u.take (min k p) ++ (u.take k).drop (p + 1)
theorem Dk_skip (u : List UInt8) (p : Nat) (hp : p < u.length) : Dk u p (p + 1) = Dk u p p := by
  unfold Dk
  rw [Nat.min_self, Nat.min_eq_right (by omega), List.drop_of_length_le (by rw [List.length_take]; omega), List.drop_of_length_le (by rw [List.length_take]; omega)]
theorem Dk_step (u : List UInt8) (p k : Nat) (hk : k < u.length) (hne : k ≠ p) : Dk u p (k + 1) = Dk u p k ++ [u[k]] := by
  unfold Dk
  by_cases h : k < p
  · rw [Nat.min_eq_left (by omega), Nat.min_eq_left (by omega), List.drop_of_length_le (by rw [List.length_take]; omega), List.drop_of_length_le (by rw [List.length_take]; omega), List.append_nil, List.append_nil, List.take_succ_eq_append_getElem hk]
  · rw [Nat.min_eq_right (by omega), Nat.min_eq_right (by omega), List.take_succ_eq_append_getElem hk, List.drop_append_of_le_length (by rw [List.length_take]; omega), List.append_assoc]
/-- Where the point has to be: d places before the end, or behind it if there are none. -/
def At (u : List UInt8) (d p : Nat) : Prop := (d = 0 ∧ p = u.length) ∨ (1 ≤ d ∧ p + d + 1 = u.length)
theorem At.parts {u : List UInt8} {d p : Nat} (h : At u d p) : pWhole u d = u.take p ∧ pFrac u d = u.drop (p + 1) ∧ Dk u p u.length = pWhole u d ++ pFrac u d := by
  rcases h with ⟨rfl, rfl⟩ | ⟨h1, h2⟩
  · have e1 : pWhole u 0 = u := by unfold pWhole; rw [if_pos rfl]
    have e2 : pFrac u 0 = [] := by unfold pFrac; rw [if_pos rfl]
    refine ⟨by rw [e1, List.take_length], by rw [e2, List.drop_of_length_le (by omega)], ?_⟩
    rw [e1, e2]; unfold Dk
    rw [Nat.min_self, List.take_length, List.drop_of_length_le (by omega)]
  · have e1 : pWhole u d = u.take p := by unfold pWhole; rw [if_neg (by omega), show u.length - d - 1 = p by omega]
    have e2 : pFrac u d = u.drop (p + 1) := by unfold pFrac; rw [if_neg (by omega), show u.length - d = p + 1 by omega]
    refine ⟨e1, e2, ?_⟩
    rw [e1, e2]; unfold Dk
    rw [Nat.min_eq_right (by omega), List.take_length]
theorem At.found {u : List UInt8} {d p : Nat} (h : At u d p) : pFound u d = (d == 0 || (u.getD p 0 == 46)) := by
  unfold pFound
  rcases h with ⟨rfl, rfl⟩ | ⟨h1, h2⟩
  · rfl
  · rw [show u.length - d - 1 = p by omega, decide_eq_true (by omega), Bool.true_and]
theorem ok_short {u : List UInt8} {d : Nat} (h : pWhole u d = []) : pOk u d = false := by
  unfold pOk; rw [h]; simp [shortB]
theorem ok_small {u : List UInt8} {d : Nat} (h : (u.length : Int) - d - 1 < 1) (hd : 1 ≤ d) : pOk u d = false := by
  apply ok_short
  unfold pWhole
  rw [if_neg (by omega), show u.length - d - 1 = 0 by omega]; rfl
theorem ok_zero {u : List UInt8} {d p : Nat} (h : At u d p) (hp : 1 < p) (c : UInt8) (t : List UInt8) (hu : u = c :: t) (hc : c = 48) : pOk u d = false := by
  have h2 : p ≤ u.length := by rcases h with ⟨_, e⟩ | ⟨_, e⟩ <;> omega
  have hs : shortB (pWhole u d) false = false := by
    rw [h.parts.1, hu]
    obtain ⟨q, rfl⟩ : ∃ q, p = q + 2 := ⟨p - 2, by omega⟩
    cases t with
    | nil => rw [hu] at h2; simp at h2
    | cons b t => rw [hc]; rfl
  unfold pOk; rw [hs, Bool.false_and, Bool.and_false]
theorem short_ok {u : List UInt8} {d p : Nat} (h : At u d p) (hp : 1 ≤ p) (c : UInt8) (t : List UInt8) (hu : u = c :: t) (hc : c ≠ 48 ∨ p = 1) : shortB (pWhole u d) false = true := by
  rw [h.parts.1, hu]
  obtain ⟨q, rfl⟩ : ∃ q, p = q + 1 := ⟨p - 1, by omega⟩
  show ((c != 48) || ((t.take q).isEmpty && !false)) = true
  rcases hc with hc | hc
  · have : (c != 48) = true := by rw [bne_iff_ne]; exact hc
    rw [this]; rfl
  · have : q = 0 := by omega
    subst this
    simp
theorem ok_nodot {u : List UInt8} {d p : Nat} (h : At u d p) (hp : p < u.length) (hc : u[p] ≠ 46) : pOk u d = false := by
  have hd : 1 ≤ d := by rcases h with ⟨_, e⟩ | ⟨e, _⟩ <;> omega
  have hg : u.getD p 0 = u[p] := by simp [List.getD, hp]
  have h1 : (d == 0) = false := by rw [beq_eq_false_iff_ne]; omega
  have h2 : (u[p] == 46) = false := by rw [beq_eq_false_iff_ne]; exact hc
  unfold pOk; rw [h.found, hg, h1, h2]; rfl
theorem ok_nodig {u : List UInt8} {d p k : Nat} (h : At u d p) (hk : k < u.length) (hne : k ≠ p) (hc : dig u[k] = false) : pOk u d = false := by
  have ha : (allDig (pWhole u d) && allDig (pFrac u d)) = false := by
    rw [h.parts.1, h.parts.2.1]
    cases hq : (allDig (u.take p) && allDig (u.drop (p + 1)))
    · rfl
    · rw [Bool.and_eq_true] at hq
      unfold allDig at hq
      rw [List.all_eq_true, List.all_eq_true] at hq
      by_cases hkp : k < p
      · rw [hq.1 u[k] (List.mem_take_iff_getElem.2 ⟨k, by omega, rfl⟩)] at hc; cases hc
      · rw [hq.2 u[k] (List.mem_drop_iff_getElem.2 ⟨k - (p + 1), by omega, by congr 1; omega⟩)] at hc; cases hc
  unfold pOk; rw [ha, Bool.and_false, Bool.and_false]
theorem ok_yes {u : List UInt8} {d p : Nat} (h : At u d p) (hs : shortB (pWhole u d) false = true) (ha : allDig (Dk u p u.length) = true) (hdot : p < u.length → u.getD p 0 = 46) : pOk u d = true ∧ pNum u d = dval (Dk u p u.length) := by
  have e := h.parts.2.2
  rw [e, allDig_app] at ha
  refine ⟨?_, by unfold pNum; rw [e]⟩
  have hf : pFound u d = true := by
    rw [h.found]
    rcases h with ⟨rfl, _⟩ | ⟨h1, h2⟩
    · rfl
    · rw [hdot (by omega)]; simp
  unfold pOk; rw [hf, hs, ha]; rfl
theorem getU (U : ByteArray) (k : Nat) (h : k < U.size) : U.data.toList[k]'(by rw [size_list]; exact h) = U[k] := rfl
end Go.Proofs.YtkijbckpfcfcpabDoor
