/-
  The walk of the law RoundingSteps, for what live answers.
-/
import Derived.Test.YtkijbckpfcfcpaaDoorRPercents
import Derived.Test.YtkijbckpfcfcpaaDoorRS
import Derived.Test.YtkijbckpfcfcpaaDoorRSR
namespace Go.Proofs.YtkijbckpfcfcpaaDoor
open Go Go.RowKit Go.Lib WM

theorem step_mul {a s m : Int} (h : sE a s m = 0) : 1 ≤ s ∧ ∃ q : Int, sQ a s m = q * s := by
  unfold sE at h
  unfold sQ
  split at h
  · rename_i hk
    have h1 := hk
    unfold stepOk at h1
    rw [Bool.and_eq_true, Bool.and_eq_true] at h1
    have h2 : 1 ≤ s ∧ s ≤ 1000000000000 := by simpa using h1.1.2
    split at h
    · rename_i hg
      rw [if_pos hk, if_pos hg]
      exact ⟨h2.1, _, rfl⟩
    · cases h
  · cases h

set_option maxRecDepth 100000 in
set_option maxHeartbeats 4000000 in
theorem steps_of (L : Live2) (a s m : Int) (ha : I64 a) (hs : I64 s) (_hm : I64 m) (w : World) (hch : Ch w) :
    Calls Tryd.prog 9 #[.int .i64 a, .int .i64 s, .int .i64 m] w fun e w' => e = .returned (.bool true) ∧ Below w.heap.size w w' := by
  have C1 := fun W hC => step_any a s m ha hs W hC
  have C2 := fun W => rstep_any a s m ha hs W
  have M := step_mul (a := a) (s := s) (m := m)
  obtain ⟨Q, e1⟩ : ∃ x, sQ a s m = x := ⟨_, rfl⟩
  obtain ⟨E, e2⟩ : ∃ x, sE a s m = x := ⟨_, rfl⟩
  simp only [e1, e2] at C1 C2 M
  have C1 := Lib.hid C1; have C2 := Lib.hid C2
  clear e1 e2
  by_cases hE : E = 0
  · obtain ⟨s1, q, hq⟩ := M hE
    subst hE
    have hr : Q.tmod s = 0 := by rw [hq]; exact Int.mul_tmod_left q s
    have sne : (decide (s = 0)) = false := by simp; omega
    clear M hq
    go_enter Tryd.func9, Tryd.ntmps9
    go_wp2_with fail
    refine (C1.out _ hch).mono ?_
    rintro e w1 ⟨rfl, q1⟩
    have h1 := hch.keep q1
    go_wp2_with fail
    refine (C2.out _).mono ?_
    rintro e w2 ⟨rfl, q2⟩
    have h2 := h1.keep q2
    have Z2 := btr q1 q2
    go_wp2_with fail
    refine (L _ h2).mono ?_
    rintro e w3 ⟨rfl, q3⟩
    have Z3 := btr Z2 q3
    go_wp2_with fail
    go_ret
    exact ⟨rfl, Z3⟩
  · have hE' : (decide (E = 0)) = false := by simp [hE]
    clear M
    go_enter Tryd.func9, Tryd.ntmps9
    go_wp2_with fail
    refine (C1.out _ hch).mono ?_
    rintro e w1 ⟨rfl, q1⟩
    have h1 := hch.keep q1
    go_wp2_with fail
    refine (C2.out _).mono ?_
    rintro e w2 ⟨rfl, q2⟩
    have h2 := h1.keep q2
    have Z2 := btr q1 q2
    go_wp2_with fail
    refine (L _ h2).mono ?_
    rintro e w3 ⟨rfl, q3⟩
    have Z3 := btr Z2 q3
    go_wp2_with fail
    go_ret
    exact ⟨rfl, Z3⟩
end Go.Proofs.YtkijbckpfcfcpaaDoor
