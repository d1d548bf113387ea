/-
  The contract of the document's own Step.
-/
import Derived.Test.YtkijbckpfcfcpaaDoorRPR
import Derived.Test.YtkijbckpfcfcpaaDoorRSMath
namespace Go.Proofs.YtkijbckpfcfcpaaDoor
open Go Go.RowKit WM

set_option maxRecDepth 100000 in
set_option maxHeartbeats 1000000 in
theorem rstep_any (a s m : Int) (ha : I64 a) (hs : I64 s) (w : World) :
    Calls Tryd.prog 37 #[.int .i64 a, .int .i64 s, .int .i64 m] w fun e w' =>
      e = .returned (.tuple #[.int .i64 (sQ a s m), .int .i64 (sE a s m)]) ∧ Below w.heap.size w w' := by
  have GG := fun W => rgood_any a W
  have VV := fun W => rvalid_any m W
  cases hok : stepOk a s m
  · have e1 : sQ a s m = 0 := by unfold sQ; rw [hok]; rfl
    have e2 : sE a s m = 1 := by unfold sE; rw [hok]; rfl
    rw [e1, e2]
    have hk : goodB a = false ∨ (goodB a = true ∧ s < 1) ∨ (goodB a = true ∧ ¬ s < 1 ∧ 1000000000000 < s) ∨ (goodB a = true ∧ ¬ s < 1 ∧ ¬ 1000000000000 < s ∧ validB m = false) := by
      unfold stepOk at hok
      cases h1 : goodB a
      · exact Or.inl rfl
      · rw [h1, Bool.true_and] at hok
        by_cases h2 : s < 1
        · exact Or.inr (Or.inl ⟨rfl, h2⟩)
        · by_cases h3 : 1000000000000 < s
          · exact Or.inr (Or.inr (Or.inl ⟨rfl, h2, h3⟩))
          · refine Or.inr (Or.inr (Or.inr ⟨rfl, h2, h3, ?_⟩))
            rw [show decide (1 ≤ s ∧ s ≤ 1000000000000) = true by simp; omega, Bool.true_and] at hok
            exact hok
    clear e1 e2 hok
    rcases hk with h1 | ⟨h1, h2⟩ | ⟨h1, h2, h3⟩ | ⟨h1, h2, h3, h4⟩
    · simp only [h1] at GG
      have GG := Lib.hid GG
      clear h1
      go_enter Tryd.func37, Tryd.ntmps37
      go_wp2_with fail
      refine (GG.out _).mono ?_
      rintro e w1 ⟨rfl, rfl⟩
      go_wp2_with fail
      go_ret2
      exact ⟨rfl, bref _⟩
    · simp only [h1] at GG
      have GG := Lib.hid GG
      have hd : decide (s < 1) = true := by simpa using h2
      clear h1
      go_enter Tryd.func37, Tryd.ntmps37
      go_wp2_with fail
      refine (GG.out _).mono ?_
      rintro e w1 ⟨rfl, rfl⟩
      go_wp2_with fail
      go_ret2
      exact ⟨rfl, bref _⟩
    · simp only [h1] at GG
      have GG := Lib.hid GG
      have hd : decide (s < 1) = false := by simpa using h2
      have hd2 : decide (1000000000000 < s) = true := by simpa using h3
      clear h1
      go_enter Tryd.func37, Tryd.ntmps37
      go_wp2_with fail
      refine (GG.out _).mono ?_
      rintro e w1 ⟨rfl, rfl⟩
      go_wp2_with fail
      go_ret2
      exact ⟨rfl, bref _⟩
    · simp only [h1] at GG
      simp only [h4] at VV
      have GG := Lib.hid GG; have VV := Lib.hid VV
      have hd : decide (s < 1) = false := by simpa using h2
      have hd2 : decide (1000000000000 < s) = false := by simpa using h3
      clear h1 h4
      go_enter Tryd.func37, Tryd.ntmps37
      go_wp2_with fail
      refine (GG.out _).mono ?_
      rintro e w1 ⟨rfl, rfl⟩
      go_wp2_with fail
      refine (VV.out _).mono ?_
      rintro e w2 ⟨rfl, rfl⟩
      go_wp2_with fail
      go_ret2
      exact ⟨rfl, bref _⟩
  · obtain ⟨b1, b2, b3, b4, b5, b6⟩ := step_bd hok
    obtain ⟨Q, hQ⟩ : ∃ x, quoI a s m = x := ⟨_, rfl⟩
    have e1 : sQ a s m = if goodB (Q * s) then Q * s else 0 := by unfold sQ; rw [if_pos hok, hQ]
    have e2 : sE a s m = if goodB (Q * s) then 0 else 6 := by unfold sE; rw [if_pos hok, hQ]
    rw [e1, e2]
    rw [hQ] at b1 b2 b3 b4 b5
    have hok' := hok
    unfold stepOk at hok
    rw [Bool.and_eq_true, Bool.and_eq_true] at hok
    obtain ⟨⟨h1, h2⟩, h4⟩ := hok
    simp only [h1] at GG
    simp only [h4] at VV
    have GG := Lib.hid GG; have VV := Lib.hid VV
    have h2' : 1 ≤ s ∧ s ≤ 1000000000000 := by simpa using h2
    have hd : decide (s < 1) = false := by simp; omega
    have hd2 : decide (1000000000000 < s) = false := by simp; omega
    have OF := Lib.hid (fun W => rof_any a ha W)
    have D := fun W => rrdivide_of (wH a) (wL a) s m (wH_I64 _) (wL_U64 _) hs W
    simp only [val_w (inW_I64 ha), b5, b6] at D
    have D := Lib.hid D
    have hQI : I64 Q := by unfold I64; omega
    have hPI : I64 (Q * s) := by unfold I64; omega
    have M := fun W => rmul_any Q s hQI hs W
    have INT := fun W => rint_any (wH (Q * s)) (wL (Q * s)) (wH_I64 _) (wL_U64 _) W
    have hii : isInt (Q * s) = true := by simp only [isInt, decide_eq_true_eq]; omega
    have hti : toInt (Q * s) = Q * s := by unfold toInt; rw [if_pos hii]
    simp only [val_w (inW_I64 hPI), hii, hti] at INT
    obtain ⟨P, hP⟩ : ∃ x, Q * s = x := ⟨_, rfl⟩
    simp only [hP] at INT M
    rw [hP]
    have M := Lib.hid M
    have INT := Lib.hid INT
    have HP := Lib.hid hP
    have G2 := fun W => rgood_any P W
    cases hg : goodB P
    all_goals
      simp only [hg] at G2
      have G2 := Lib.hid G2
      simp only [Bool.false_eq_true, if_false, if_true]
      clear hg e1 e2 hok' h1 h2 h4 h2' b1 b2 b3 b4 b5 b6 hQ hP hii hti hPI
      go_enter Tryd.func37, Tryd.ntmps37
      go_wp2_with fail
      refine (GG.out _).mono ?_
      rintro e w1 ⟨rfl, rfl⟩
      go_wp2_with fail
      refine (VV.out _).mono ?_
      rintro e w2 ⟨rfl, rfl⟩
      go_wp2_with fail
      refine (OF.out _).mono ?_
      rintro e w3 ⟨rfl, Z3⟩
      go_wp2_with fail
      refine (D.out _).mono ?_
      rintro e w4 ⟨rfl, q4⟩
      have Z4 := btr Z3 q4
      clear Z3 q4
      go_wp2_with fail
      refine (M.out _).mono ?_
      rintro e w5 ⟨rfl, q5⟩
      have Z5 := btr Z4 q5
      clear Z4 q5
      go_wp2_with fail
      refine (INT.out _).mono ?_
      rintro e w6 ⟨rfl, q6⟩
      have Z6 := btr Z5 q6
      clear Z5 q6
      go_wp2_with fail
      refine (G2.out _).mono ?_
      rintro e w7 ⟨rfl, rfl⟩
      go_wp2_with fail
      go_ret2
      exact ⟨rfl, Z6⟩
end Go.Proofs.YtkijbckpfcfcpaaDoor
