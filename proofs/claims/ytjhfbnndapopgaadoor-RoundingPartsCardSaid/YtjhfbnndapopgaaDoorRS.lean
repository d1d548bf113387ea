/-
  The contract of package rounding's Step.
-/
import Derived.Test.YtjhfbnndapopgaaDoorRD
import Derived.Test.YtjhfbnndapopgaaDoorRSMath
namespace Go.Proofs.YtjhfbnndapopgaaDoor
open Go Go.RowKit WM

set_option maxRecDepth 100000 in
set_option maxHeartbeats 1000000 in
theorem step_any (a s m : Int) (ha : I64 a) (hs : I64 s) (w : World) (hch : Ch w) :
    Calls Tryd.prog 36 #[.int .i64 a, .int .i64 s, .int .i64 m] w fun e w' =>
      e = .returned (.tuple #[.int .i64 (sQ a s m), .int .i64 (sE a s m)]) ∧ Below w.heap.size w w' := by
  have GG := fun W => good_any a W
  have hk : goodB a = false ∨ (goodB a = true ∧ s < 1) ∨ (goodB a = true ∧ ¬ s < 1 ∧ 1000000000000 < s) ∨ (goodB a = true ∧ ¬ s < 1 ∧ ¬ 1000000000000 < s ∧ validB m = false) ∨ (goodB a = true ∧ ¬ s < 1 ∧ ¬ 1000000000000 < s ∧ validB m = true) := by
    cases h1 : goodB a
    · exact Or.inl rfl
    · by_cases h2 : s < 1
      · exact Or.inr (Or.inl ⟨rfl, h2⟩)
      · by_cases h3 : 1000000000000 < s
        · exact Or.inr (Or.inr (Or.inl ⟨rfl, h2, h3⟩))
        · cases h4 : validB m
          · exact Or.inr (Or.inr (Or.inr (Or.inl ⟨rfl, h2, h3, rfl⟩)))
          · exact Or.inr (Or.inr (Or.inr (Or.inr ⟨rfl, h2, h3, rfl⟩)))
  have hno : stepOk a s m = false → sQ a s m = 0 ∧ sE a s m = 1 := by
    intro h; unfold sQ sE; rw [h]; exact ⟨rfl, rfl⟩
  rcases hk with h1 | ⟨h1, h2⟩ | ⟨h1, h2, h3⟩ | ⟨h1, h2, h3, h4⟩ | ⟨h1, h2, h3, h4⟩
  · obtain ⟨e1, e2⟩ := hno (by unfold stepOk; rw [h1]; rfl)
    rw [e1, e2]
    simp only [h1] at GG
    have GG := Lib.hid GG
    clear h1 e1 e2 hno
    go_enter Tryd.func36, Tryd.ntmps36
    go_wp2_with fail
    refine (GG.out _).mono ?_
    rintro e w1 ⟨rfl, rfl⟩
    go_wp2_with fail
    go_ret2
    exact ⟨rfl, bref _⟩
  · obtain ⟨e1, e2⟩ := hno (by unfold stepOk; rw [h1, show decide (1 ≤ s ∧ s ≤ 1000000000000) = false by simp; omega]; rfl)
    rw [e1, e2]
    simp only [h1] at GG
    have GG := Lib.hid GG
    have hd : decide (s < 1) = true := by simpa using h2
    clear h1 e1 e2 hno
    go_enter Tryd.func36, Tryd.ntmps36
    go_wp2_with fail
    refine (GG.out _).mono ?_
    rintro e w1 ⟨rfl, rfl⟩
    go_wp2_with fail
    go_ret2
    exact ⟨rfl, bref _⟩
  · obtain ⟨e1, e2⟩ := hno (by unfold stepOk; rw [h1, show decide (1 ≤ s ∧ s ≤ 1000000000000) = false by simp; omega]; rfl)
    rw [e1, e2]
    simp only [h1] at GG
    have GG := Lib.hid GG
    have hd : decide (s < 1) = false := by simpa using h2
    have hd2 : decide (1000000000000 < s) = true := by simpa using h3
    clear h1 e1 e2 hno
    go_enter Tryd.func36, Tryd.ntmps36
    go_wp2_with fail
    refine (GG.out _).mono ?_
    rintro e w1 ⟨rfl, rfl⟩
    go_wp2_with fail
    go_ret2
    exact ⟨rfl, bref _⟩
  · obtain ⟨e1, e2⟩ := hno (by unfold stepOk; rw [h4, Bool.and_false])
    rw [e1, e2]
    simp only [h1] at GG
    have GG := Lib.hid GG
    have hd : decide (s < 1) = false := by simpa using h2
    have hd2 : decide (1000000000000 < s) = false := by simpa using h3
    have OF := Lib.hid (fun W => of_any a ha W)
    have D := fun W hC => rdivide_of (wH a) (wL a) s m (wH_I64 _) (wL_U64 _) hs W hC
    have hq : dQ a s m = 0 ∧ dE a s m = 1 := by unfold dQ dE; rw [h4, Bool.and_false]; exact ⟨rfl, rfl⟩
    simp only [val_w (inW_I64 ha), hq.1, hq.2] at D
    have D := Lib.hid D
    clear h1 e1 e2 hno h4 hq
    go_enter Tryd.func36, Tryd.ntmps36
    go_wp2_with fail
    refine (GG.out _).mono ?_
    rintro e w1 ⟨rfl, rfl⟩
    go_wp2_with fail
    refine (OF.out _).mono ?_
    rintro e w3 ⟨rfl, Z3⟩
    go_wp2_with fail
    refine (D.out _ (hch.keep Z3)).mono ?_
    rintro e w4 ⟨rfl, q4⟩
    have Z4 := btr Z3 q4
    go_wp2_with fail
    go_ret2
    exact ⟨rfl, Z4⟩
  · have hok : stepOk a s m = true := by unfold stepOk; rw [h1, h4, show decide (1 ≤ s ∧ s ≤ 1000000000000) = true by simp; omega]; rfl
    obtain ⟨b1, b2, b3, b4, b5, b6⟩ := step_bd hok
    obtain ⟨Q, hQ⟩ : ∃ x, quoI a s m = x := ⟨_, rfl⟩
    have e1 : sQ a s m = if goodB (Q * s) then Q * s else 0 := by unfold sQ; rw [if_pos hok, hQ]
    have e2 : sE a s m = if goodB (Q * s) then 0 else 6 := by unfold sE; rw [if_pos hok, hQ]
    rw [e1, e2]
    rw [hQ] at b1 b2 b3 b4 b5
    simp only [h1] at GG
    have GG := Lib.hid GG
    have hd : decide (s < 1) = false := by simpa using h2
    have hd2 : decide (1000000000000 < s) = false := by simpa using h3
    have OF := Lib.hid (fun W => of_any a ha W)
    have D := fun W hC => rdivide_of (wH a) (wL a) s m (wH_I64 _) (wL_U64 _) hs W hC
    simp only [val_w (inW_I64 ha), b5, b6] at D
    have D := Lib.hid D
    have G2 := fun W => good_any (Q * s) W
    cases hg : goodB (Q * s)
    all_goals
      simp only [hg] at G2
      have G2 := Lib.hid G2
      simp only [Bool.false_eq_true, if_false, if_true]
      clear hg e1 e2 h1 h4 b3 b4 b5 b6 hQ hok hno
      go_enter Tryd.func36, Tryd.ntmps36
      go_wp2_with fail
      refine (GG.out _).mono ?_
      rintro e w1 ⟨rfl, rfl⟩
      go_wp2_with fail
      refine (OF.out _).mono ?_
      rintro e w3 ⟨rfl, Z3⟩
      go_wp2_with fail
      refine (D.out _ (hch.keep Z3)).mono ?_
      rintro e w4 ⟨rfl, q4⟩
      have Z4 := btr Z3 q4
      clear Z3 q4
      go_wp2_with fail
      refine (G2.out _).mono ?_
      rintro e w7 ⟨rfl, rfl⟩
      go_wp2_with fail
      go_ret2
      exact ⟨rfl, Z4⟩
end Go.Proofs.YtjhfbnndapopgaaDoor
