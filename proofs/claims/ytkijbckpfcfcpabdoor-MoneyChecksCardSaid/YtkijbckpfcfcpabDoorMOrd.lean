/-
  A list of currencies that Check accepts: each code is found at its own place.
-/
import Derived.Test.YtkijbckpfcfcpabDoorMCheckR
import Derived.Sort.Walk0
namespace Go.Proofs.YtkijbckpfcfcpabDoor
open Go Go.RowKit Go.Lib WM

theorem leS_lt (c p : ByteArray) : leS c p = false ↔ p.toList < c.toList := by
  unfold leS
  rw [bytesLess_eq]
  constructor
  · intro h
    simp only [Bool.or_eq_false_iff, decide_eq_false_iff_not, beq_eq_false_iff_ne] at h
    obtain ⟨h1, h2⟩ := h
    refine Classical.byContradiction fun hn => h2 ?_
    exact List.le_antisymm (List.not_lt.1 hn) (List.not_lt.1 h1)
  · intro h
    simp only [Bool.or_eq_false_iff, decide_eq_false_iff_not, beq_eq_false_iff_ne]
    exact ⟨fun hc => List.lt_irrefl _ (List.lt_trans h hc), fun he => by rw [he] at h; exact List.lt_irrefl _ h⟩
theorem chk_head (p : ByteArray) (c : Cur) (cs : List Cur) (h : chk p (c :: cs) = 0) : leS c.1 p = false ∧ chk c.1 cs = 0 := by
  by_cases he : errC p c = 0
  · rw [chk_good _ _ _ he] at h
    refine ⟨?_, h⟩
    cases hl : leS c.1 p
    · rfl
    · unfold errC at he
      rw [hl] at he
      simp only [if_true] at he
      split at he
      · split at he <;> omega
      · omega
  · rw [chk_bad _ _ _ he] at h
    exact absurd h he
theorem chk_all : ∀ (cs : List Cur) (p : ByteArray), chk p cs = 0 → ∀ x ∈ cs, p.toList < x.1.toList
  | [], _, _, x, hx => by cases hx
  | c :: cs, p, h, x, hx => by
    obtain ⟨h1, h2⟩ := chk_head p c cs h
    have h1 := (leS_lt _ _).1 h1
    rcases List.mem_cons.1 hx with rfl | hx
    · exact h1
    · exact List.lt_trans h1 (chk_all cs c.1 h2 x hx)
theorem chk_find : ∀ (cs : List Cur) (p : ByteArray), chk p cs = 0 → ∀ x ∈ cs, cs.find? (isC x.1) = some x
  | [], _, _, x, hx => by cases hx
  | c :: cs, p, h, x, hx => by
    obtain ⟨_, h2⟩ := chk_head p c cs h
    rw [List.find?_cons]
    rcases List.mem_cons.1 hx with rfl | hx
    · have e : isC x.1 x = true := by unfold isC; simp
      rw [e]
    · have hl := chk_all cs c.1 h2 x hx
      have e : isC x.1 c = false := by
        unfold isC
        rw [beq_eq_false_iff_ne]
        intro he
        rw [he] at hl
        exact List.lt_irrefl _ hl
      rw [e]
      exact chk_find cs c.1 h2 x hx
theorem found (cs : List Cur) (h : checkC cs = 0) (k : Nat) (hk : k < cs.length) : findC cs (cs.getD k zeroC).1 = (cs.getD k zeroC, true) := by
  have h0 : chk ⟨#[]⟩ cs = 0 := by
    unfold checkC at h
    split at h
    · cases h
    · exact h
  have hm : cs.getD k zeroC ∈ cs := by
    simp only [List.getD, List.getElem?_eq_getElem hk, Option.getD_some]
    exact List.getElem_mem hk
  unfold findC
  rw [chk_find cs _ h0 _ hm]
end Go.Proofs.YtkijbckpfcfcpabDoor
