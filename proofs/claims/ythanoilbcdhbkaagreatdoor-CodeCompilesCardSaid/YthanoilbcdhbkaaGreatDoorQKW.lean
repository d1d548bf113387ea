/-
  The walk of CodeDiffers.
-/
import Derived.Test.YthanoilbcdhbkaaGreatDoorQM
import Derived.Test.YthanoilbcdhbkaaGreatDoorQKR
import Derived.Test.YthanoilbcdhbkaaGreatDoorQEB
namespace Go.Proofs.YthanoilbcdhbkaaGreatDoor
open Go Go.RowKit Go.Lib Go.Shelf WM TM EM YM

theorem com_fits {e : Ex} {vs : List Vr} (h : comE e vs = 0) : comC e vs = ⟨(ofT e vs).1, vs, em vs 0 e⟩ ∧ vsE vs = 0 ∧ (ofT e vs).2 = 0 ∧ vE e = 0 ∧ (ty vs e).2 = 0 ∧ (ofT e vs).1 = (ty vs e).1 := by
 have h1 : vsE vs = 0 := by
  unfold comE at h
  by_cases q : vsE vs ≠ 0
  ·rw [if_pos q] at h; exact h
  ·omega
 have h2 : (ofT e vs).2 = 0 := by
  unfold comE at h
  rw [if_neg (by omega)] at h
  exact h
 have h3 : vE e = 0 := by
  unfold ofT at h2
  by_cases q : vE e = 0
  ·exact q
  ·rw [if_neg q] at h2; exact absurd h2 q
 have h4 := ofT_ok vs h3
 rw [h4] at h2
 refine ⟨by unfold comC; rw [if_pos h], h1, by rw [h4]; exact h2, h3, h2, by rw [h4]⟩
theorem com_few {e : Ex} {vs : List Vr} : (comC e vs).vs.length ≤ 1000000 ∧ (comC e vs).c.length ≤ 1000000 := by
 by_cases h : comE e vs = 0
 ·obtain ⟨hc, h1, h2, h3, _⟩ := com_fits h
  obtain ⟨p1, p2, p3⟩ := com_parts h1 h2
  have := (em_len vs e p3 0).2
  rw [hc]
  exact ⟨by show vs.length ≤ _; omega, by show (em vs 0 e).length ≤ _; omega⟩
 ·unfold comC
  rw [if_neg h]
  exact ⟨by show 0 ≤ 1000000; omega, by show 0 ≤ 1000000; omega⟩
end Go.Proofs.YthanoilbcdhbkaaGreatDoor
