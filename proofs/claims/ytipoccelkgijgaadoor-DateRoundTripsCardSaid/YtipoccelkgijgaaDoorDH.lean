/-
  The examples that every statement about dates asks: they hold.
-/
import Derived.Test.YtipoccelkgijgaaDoorDG
namespace Go.Proofs.YtipoccelkgijgaaDoor
open Go Go.RowKit Go.Lib WM

theorem civ0 : Civ 0 2000 1 1 := ⟨by decide, by decide, by decide, by decide, by decide, by decide, by decide⟩
theorem civ30 : Civ 30 2000 1 31 := ⟨by decide, by decide, by decide, by decide, by decide, by decide, by decide⟩
theorem civ59 : Civ 59 (2000 : Nat) (2 : Nat) (29 : Nat) := ⟨by decide, by decide, by decide, by decide, by decide, by decide, by decide⟩
theorem ex1 : amV 2000 1 1 31 = 59 ∧ amE 2000 1 1 31 = 0 := by decide +kernel
theorem ex2 : dayV 2001 2 29 = 0 ∧ dayE 2001 2 29 = 1 := by decide +kernel
theorem ex3 : psV [50, 49, 57, 57, 45, 49, 50, 45, 51, 49] = 73048 ∧ psE [50, 49, 57, 57, 45, 49, 50, 45, 51, 49] = 0 := by decide +kernel
theorem ex4 : psV [50, 48, 48, 48, 45, 49, 45, 49] = 0 ∧ psE [50, 48, 48, 48, 45, 49, 45, 49] = 2 := by decide +kernel
theorem ex5 : textL 2000 2 29 = [50, 48, 48, 48, 45, 48, 50, 45, 50, 57] := by decide +kernel
theorem ex6 : 0 + lenI 2000 1 - 1 = 30 := by decide +kernel
theorem ex7 : leapB 2000 = true ∧ leapB 2100 = false := by decide +kernel
theorem ex8 : (if vdB 0 = true then ((0 : Int) + 5) % 7 else -1) = 5 := by decide +kernel

theorem l1 (w : World) (hL : Ln w) : Calls Tryd.prog 24 #[.int .i64 30, .int .i64 1, .int .i64 31] w fun e w' => e = .returned (.tuple #[.int .i64 59, .int .i64 0]) ∧ w = w' :=
  (mam 30 2000 1 31 1 31 civ30 w hL).mono fun e w' ⟨he, hb⟩ => ⟨by rw [ex1.1, ex1.2] at he; exact he, hb⟩
theorem l2 (w : World) (hL : Ln w) : Calls Tryd.prog 22 #[.int .i64 2001, .int .i64 2, .int .i64 29] w fun e w' => e = .returned (.tuple #[.int .i64 0, .int .i64 1]) ∧ w = w' :=
  (mday 2001 2 29 w hL).mono fun e w' ⟨he, hb⟩ => ⟨by rw [ex2.1, ex2.2] at he; exact he, hb⟩
theorem l3 (w : World) (hL : Ln w) : Calls Tryd.prog 26 #[.string ⟨#[50, 49, 57, 57, 45, 49, 50, 45, 51, 49]⟩] w fun e w' => e = .returned (.tuple #[.int .i64 73048, .int .i64 0]) ∧ ∃ n, w' = w.drewN n :=
  (mparse ⟨#[50, 49, 57, 57, 45, 49, 50, 45, 51, 49]⟩ (by decide) w hL).mono fun e w' ⟨he, hb⟩ => ⟨by rw [he]; show Ending.returned (.tuple #[.int .i64 (psV [50, 49, 57, 57, 45, 49, 50, 45, 51, 49]), .int .i64 (psE [50, 49, 57, 57, 45, 49, 50, 45, 51, 49])]) = _; rw [ex3.1, ex3.2], hb⟩
theorem l4 (w : World) (hL : Ln w) : Calls Tryd.prog 26 #[.string ⟨#[50, 48, 48, 48, 45, 49, 45, 49]⟩] w fun e w' => e = .returned (.tuple #[.int .i64 0, .int .i64 2]) ∧ ∃ n, w' = w.drewN n :=
  (mparse ⟨#[50, 48, 48, 48, 45, 49, 45, 49]⟩ (by decide) w hL).mono fun e w' ⟨he, hb⟩ => ⟨by rw [he]; show Ending.returned (.tuple #[.int .i64 (psV [50, 48, 48, 48, 45, 49, 45, 49]), .int .i64 (psE [50, 48, 48, 48, 45, 49, 45, 49])]) = _; rw [ex4.1, ex4.2], hb⟩
theorem l5 (w : World) (hL : Ln w) (ht : Tb w) : Calls Tryd.prog 17 #[.int .i64 59] w fun e w' => e = .returned (.string ⟨#[50, 48, 48, 48, 45, 48, 50, 45, 50, 57]⟩) ∧ Below w.heap.size w w' :=
  (mfmt 59 2000 2 29 civ59 w hL ht).mono fun e w' ⟨he, hb⟩ => ⟨by rw [ex5] at he; exact he, hb⟩
theorem l6 (w : World) (hL : Ln w) : Calls Tryd.prog 15 #[.int .i64 0] w fun e w' => e = .returned (.int .i64 30) ∧ w = w' :=
  (mend 0 2000 1 1 civ0 w hL).mono fun e w' ⟨he, hb⟩ => ⟨by rw [ex6] at he; exact he, hb⟩
theorem l7 (w : World) : Calls Tryd.prog 19 #[.int .i64 2000] w fun e w' => e = .returned (.bool true) ∧ w = w' :=
  (mleap 2000 w).mono fun e w' ⟨he, hb⟩ => ⟨by rw [ex7.1] at he; exact he, hb⟩
theorem l8 (w : World) : Calls Tryd.prog 19 #[.int .i64 2100] w fun e w' => e = .returned (.bool false) ∧ w = w' :=
  (mleap 2100 w).mono fun e w' ⟨he, hb⟩ => ⟨by rw [ex7.2] at he; exact he, hb⟩
theorem l9 (w : World) : Calls Tryd.prog 13 #[.int .i64 0] w fun e w' => e = .returned (.int .i64 5) ∧ w = w' :=
  (mweek 0 w).mono fun e w' ⟨he, hb⟩ => ⟨by rw [ex8] at he; exact he, hb⟩

set_option maxRecDepth 100000 in
set_option maxHeartbeats 4000000 in
theorem live_any (w : World) (hL : Ln w) (ht : Tb w) : Calls Tryd.prog 21 #[] w fun e w' => e = .returned (.bool true) ∧ Below w.heap.size w w' := by
  go_enter Tryd.func21, Tryd.ntmps21
  go_wp2_with fail
  refine (mcivil 0 2000 1 1 civ0 _ hL).mono ?_
  rintro e w1 ⟨rfl, rfl⟩
  go_wp2_with fail
  refine (l1 _ hL).mono ?_
  rintro e w1 ⟨rfl, rfl⟩
  go_wp2_with fail
  refine (l2 _ hL).mono ?_
  rintro e w1 ⟨rfl, rfl⟩
  go_wp2_with fail
  refine (l3 _ hL).mono ?_
  rintro e w1 ⟨rfl, n1, rfl⟩
  go_wp2_with fail
  refine (l4 _ (hL.drewN _)).mono ?_
  rintro e w1 ⟨rfl, n2, rfl⟩
  go_wp2_with fail
  refine (l9 _).mono ?_
  rintro e w1 ⟨rfl, rfl⟩
  go_wp2_with fail
  refine (l5 _ (hL.keep (bdn (bref _) _)) (ht.keep (bdn (bref _) _))).mono ?_
  rintro e w2 ⟨rfl, q2⟩
  have Z2 := btr (bdn (bref w) (n1 + n2)) q2
  go_wp2_with fail
  refine (l6 _ (hL.keep Z2)).mono ?_
  rintro e w1 ⟨rfl, rfl⟩
  go_wp2_with fail
  refine (l7 _).mono ?_
  rintro e w1 ⟨rfl, rfl⟩
  go_wp2_with fail
  refine (l8 _).mono ?_
  rintro e w1 ⟨rfl, rfl⟩
  go_wp2_with fail
  go_ret
  exact ⟨rfl, Z2⟩
end Go.Proofs.YtipoccelkgijgaaDoor
