/-
  Contracts of daysBefore, newYear, length, and of the document's own yearLength and Length.
-/
import Derived.Test.YtnhealjngkhinaaDoorDA
namespace Go.Proofs.YtnhealjngkhinaaDoor
open Go Go.RowKit Go.Lib WM

set_option maxHeartbeats 1000000 in
theorem mdby (y : Int) (h0 : 1800 ≤ y) (h1 : y ≤ 2400) (w : World) :
    Calls Tryd.prog 82 #[.int .i64 y] w fun e w' => e = .returned (.int .i64 (dby y)) ∧ w = w' := by
  have HR : Hid (dby y = (y - 1) * 365 + (y - 1) / 4 - (y - 1) / 100 + (y - 1) / 400) := Lib.hid rfl
  go_enter Tryd.func82, Tryd.ntmps82
  go_wp2_with fail
  go_ret
  exact ⟨by rw [HR.out]; rfl, rfl⟩

set_option maxHeartbeats 1000000 in
theorem mny (y : Int) (h0 : 1800 ≤ y) (h1 : y ≤ 2400) (w : World) :
    Calls Tryd.prog 67 #[.int .i64 y] w fun e w' => e = .returned (.int .i64 (ny y)) ∧ w = w' := by
  have HR : Hid (ny y = dby y - 730119) := Lib.hid rfl
  have b1 : -1000000 ≤ dby y ∧ dby y ≤ 1000000 := by unfold dby; omega
  have C1 := Lib.hid (fun W => mdby y h0 h1 W)
  have C2 := fun W => mdby 2000 (by omega) (by omega) W
  rw [show dby 2000 = 730119 by decide] at C2
  have C2 := Lib.hid C2
  obtain ⟨b1, b2⟩ := b1
  go_enter Tryd.func67, Tryd.ntmps67
  go_wp2_with fail
  refine (C1.out _).mono ?_
  rintro e w1 ⟨rfl, rfl⟩
  go_wp2_with fail
  refine (C2.out _).mono ?_
  rintro e w1 ⟨rfl, rfl⟩
  go_wp2_with fail
  go_ret
  exact ⟨by rw [HR.out]; rfl, rfl⟩

set_option maxHeartbeats 1000000 in
theorem mlength (y m : Int) (h1 : 1 ≤ m) (h2 : m ≤ 12) (w : World) (hL : Ln w) :
    Calls Tryd.prog 68 #[.int .i64 y, .int .i64 m] w fun e w' => e = .returned (.int .i64 (lenI y m)) ∧ w = w' := by
  have hT := len_tab y m h1 h2
  have hc := hL.cell (m - 1).toNat (by omega)
  have hb : 28 ≤ lengthsTab.getD (m - 1).toNat 0 ∧ lengthsTab.getD (m - 1).toNat 0 ≤ 31 := by
    have a := len_bd y m h1 h2
    have b := lp_01 y
    have e := len_at y m
    split at hT <;> omega
  obtain ⟨V, hV⟩ : ∃ V, lengthsTab.getD (m - 1).toNat 0 = V := ⟨_, rfl⟩
  rw [hV] at hT hc hb
  obtain ⟨b1, b2⟩ := hb
  clear hV
  by_cases c : m = 2
  · subst c
    have hc : w.cell? ⟨2, 1, none⟩ = some (.int .i64 V) := hc
    have CL := Lib.hid (fun W => mleap y W)
    cases hl : leapB y
    · have HR : Hid (lenI y 2 = V) := Lib.hid (by rw [hT, if_pos rfl]; unfold lp; rw [hl]; simp)
      have CL := CL.out
      simp only [hl] at CL
      have CL := Lib.hid CL
      clear hT hl
      go_enter Tryd.func68, Tryd.ntmps68
      go_wp2_with fail
      refine (CL.out _).mono ?_
      rintro e w1 ⟨rfl, rfl⟩
      go_wp2_with fail
      go_ret
      exact ⟨by rw [HR.out]; rfl, rfl⟩
    · have HR : Hid (lenI y 2 = V + 1) := Lib.hid (by rw [hT, if_pos rfl]; unfold lp; rw [hl]; simp)
      have CL := CL.out
      simp only [hl] at CL
      have CL := Lib.hid CL
      clear hT hl
      go_enter Tryd.func68, Tryd.ntmps68
      go_wp2_with fail
      refine (CL.out _).mono ?_
      rintro e w1 ⟨rfl, rfl⟩
      go_wp2_with fail
      go_ret
      exact ⟨by rw [HR.out]; rfl, rfl⟩
  · have HR : Hid (lenI y m = V) := Lib.hid (by rw [hT, if_neg c]; simp)
    have c1 : (m == 2) = false := by rw [beq_eq_false_iff_ne]; exact c
    have e1 : (m - 1).toNat = m.toNat - 1 := by omega
    rw [e1] at hc
    clear hT e1
    go_enter Tryd.func68, Tryd.ntmps68
    go_wp2_with fail
    go_ret
    exact ⟨by rw [HR.out]; rfl, rfl⟩

theorem ryear (y : Int) (w : World) : Calls Tryd.prog 57 #[.int .i64 y] w fun e w' => e = .returned (.int .i64 (365 + lp y)) ∧ w = w' := by
  have CL := fun W => rleap y W
  cases hl : leapB y
  · have HR : Hid (365 + lp y = 365) := Lib.hid (by unfold lp; rw [hl]; simp)
    simp only [hl] at CL
    have CL := Lib.hid CL
    clear hl
    go_enter Tryd.func57, Tryd.ntmps57
    go_wp2_with fail
    refine (CL.out _).mono ?_
    rintro e w1 ⟨rfl, rfl⟩
    go_wp2_with fail
    go_ret
    exact ⟨by rw [HR.out]; rfl, rfl⟩
  · have HR : Hid (365 + lp y = 366) := Lib.hid (by unfold lp; rw [hl]; simp)
    simp only [hl] at CL
    have CL := Lib.hid CL
    clear hl
    go_enter Tryd.func57, Tryd.ntmps57
    go_wp2_with fail
    refine (CL.out _).mono ?_
    rintro e w1 ⟨rfl, rfl⟩
    go_wp2_with fail
    go_ret
    exact ⟨by rw [HR.out]; rfl, rfl⟩

set_option maxHeartbeats 2000000 in
theorem rlength (y m : Int) (w : World) : Calls Tryd.prog 56 #[.int .i64 y, .int .i64 m] w fun e w' => e = .returned (.int .i64 (lenI y m)) ∧ w = w' := by
  rcases len_at y m with ⟨hm, hl⟩ | ⟨hm, hl⟩ | ⟨hm, hl⟩ | ⟨hm, hl⟩
  · subst hm
    have CL := fun W => rleap y W
    cases hy : leapB y
    · have HR : Hid (lenI y 2 = 28) := Lib.hid (by rw [hl]; unfold lp; rw [hy]; simp)
      simp only [hy] at CL
      have CL := Lib.hid CL
      clear hy hl
      go_enter Tryd.func56, Tryd.ntmps56
      go_wp2_with fail
      refine (CL.out _).mono ?_
      rintro e w1 ⟨rfl, rfl⟩
      go_wp2_with fail
      go_ret
      exact ⟨by rw [HR.out]; rfl, rfl⟩
    · have HR : Hid (lenI y 2 = 29) := Lib.hid (by rw [hl]; unfold lp; rw [hy]; simp)
      simp only [hy] at CL
      have CL := Lib.hid CL
      clear hy hl
      go_enter Tryd.func56, Tryd.ntmps56
      go_wp2_with fail
      refine (CL.out _).mono ?_
      rintro e w1 ⟨rfl, rfl⟩
      go_wp2_with fail
      go_ret
      exact ⟨by rw [HR.out]; rfl, rfl⟩
  · have HR := Lib.hid hl
    clear hl
    rcases hm with rfl | rfl | rfl | rfl
    all_goals
      go_enter Tryd.func56, Tryd.ntmps56
      go_wp2_with fail
      go_ret
      exact ⟨by rw [HR.out]; rfl, rfl⟩
  · have HR := Lib.hid hl
    clear hl
    rcases hm with rfl | rfl | rfl | rfl | rfl | rfl | rfl
    all_goals
      go_enter Tryd.func56, Tryd.ntmps56
      go_wp2_with fail
      go_ret
      exact ⟨by rw [HR.out]; rfl, rfl⟩
  · have HR := Lib.hid hl
    clear hl
    have n1 : ¬ m = 1 := by omega
    have n2 : ¬ m = 2 := by omega
    have n3 : ¬ m = 3 := by omega
    have n4 : ¬ m = 4 := by omega
    have n5 : ¬ m = 5 := by omega
    have n6 : ¬ m = 6 := by omega
    have n7 : ¬ m = 7 := by omega
    have n8 : ¬ m = 8 := by omega
    have n9 : ¬ m = 9 := by omega
    have n10 : ¬ m = 10 := by omega
    have n11 : ¬ m = 11 := by omega
    have n12 : ¬ m = 12 := by omega
    clear hm
    go_enter Tryd.func56, Tryd.ntmps56
    go_wp2_with fail
    go_ret
    exact ⟨by rw [HR.out]; rfl, rfl⟩
end Go.Proofs.YtnhealjngkhinaaDoor
