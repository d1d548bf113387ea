/-
  The examples that every statement about money asks: they hold.
-/
import Derived.Test.YtkijbckpfcfcpabDoorMRefF
namespace Go.Proofs.YtkijbckpfcfcpabDoor
open Go Go.RowKit Go.Lib WM

theorem ex1 : fmtL (-1234) 2 = [45, 49, 50, 46, 51, 52] ∧ fmtE (-1234) 2 = 0 := by
  have h : decDigits 12 = [49, 50] := by rw [decDigits_two (by omega) (by omega)]; rfl
  refine ⟨?_, by decide +kernel⟩
  show (45 : UInt8) :: (decDigits 12 ++ 46 :: pad 2 1234) = _
  rw [h]; rfl
theorem ex2 : fmtL 5 2 = [48, 46, 48, 53] ∧ fmtE 5 2 = 0 := by
  have h : decDigits 0 = [48] := dec_zero
  refine ⟨?_, by decide +kernel⟩
  show decDigits 0 ++ 46 :: pad 2 5 = _
  rw [h]; rfl
theorem ex3 : prV [45, 49, 50, 46, 51, 52] 2 = -1234 ∧ prE [45, 49, 50, 46, 51, 52] 2 = 0 := by decide +kernel
theorem ex4 : prV [45, 48, 46, 48, 48] 2 = 0 ∧ prE [45, 48, 46, 48, 48] 2 = 2 := by decide +kernel
theorem ex5 : sumV [1000000000000, 1000000000000, -1000000000000] = 1000000000000 ∧ sumE [1000000000000, 1000000000000, -1000000000000] = 0 := by decide +kernel
theorem ex6 : codeB [69, 85, 82] = true := by decide +kernel

theorem l1 (w : World) (ht : Tb w) : Calls Tryd.prog 23 #[.int .i64 (-1234), .int .i64 2] w fun e w' => e = .returned (.tuple #[.string ⟨#[45, 49, 50, 46, 51, 52]⟩, .int .i64 0]) ∧ Below w.heap.size w w' :=
  (mformat (-1234) 2 w ht).mono fun e w' ⟨he, hb⟩ => ⟨by rw [ex1.1, ex1.2] at he; exact he, hb⟩
theorem l2 (w : World) (ht : Tb w) : Calls Tryd.prog 23 #[.int .i64 5, .int .i64 2] w fun e w' => e = .returned (.tuple #[.string ⟨#[48, 46, 48, 53]⟩, .int .i64 0]) ∧ Below w.heap.size w w' :=
  (mformat 5 2 w ht).mono fun e w' ⟨he, hb⟩ => ⟨by rw [ex2.1, ex2.2] at he; exact he, hb⟩
theorem l3 (w : World) : Calls Tryd.prog 25 #[.string ⟨#[45, 49, 50, 46, 51, 52]⟩, .int .i64 2] w fun e w' => e = .returned (.tuple #[.int .i64 (-1234), .int .i64 0]) ∧ Below w.heap.size w w' :=
  (mparse ⟨#[45, 49, 50, 46, 51, 52]⟩ 2 (by decide) w).mono fun e w' ⟨he, hb⟩ => ⟨by rw [he]; show Ending.returned (.tuple #[.int .i64 (prV [45, 49, 50, 46, 51, 52] 2), .int .i64 (prE [45, 49, 50, 46, 51, 52] 2)]) = _; rw [ex3.1, ex3.2], hb⟩
theorem l4 (w : World) : Calls Tryd.prog 25 #[.string ⟨#[45, 48, 46, 48, 48]⟩, .int .i64 2] w fun e w' => e = .returned (.tuple #[.int .i64 0, .int .i64 2]) ∧ Below w.heap.size w w' :=
  (mparse ⟨#[45, 48, 46, 48, 48]⟩ 2 (by decide) w).mono fun e w' ⟨he, hb⟩ => ⟨by rw [he]; show Ending.returned (.tuple #[.int .i64 (prV [45, 48, 46, 48, 48] 2), .int .i64 (prE [45, 48, 46, 48, 48] 2)]) = _; rw [ex4.1, ex4.2], hb⟩
theorem l6 (w : World) : Calls Tryd.prog 17 #[.string ⟨#[69, 85, 82]⟩] w fun e w' => e = .returned (.bool true) ∧ Below w.heap.size w w' :=
  (mcode ⟨#[69, 85, 82]⟩ w).mono fun e w' ⟨he, hb⟩ => ⟨by rw [he]; show Ending.returned (.bool (codeB [69, 85, 82])) = _; rw [ex6], hb⟩
theorem l7 (w : World) : Calls Tryd.prog 12 #[.int .i64 (-5)] w fun e w' => e = .returned (.bool true) ∧ w = w' := mvalid (-5) w

set_option maxRecDepth 100000 in
set_option maxHeartbeats 4000000 in
theorem lives_any (w : World) (ht : Tb w) : Calls Tryd.prog 14 #[] w fun e w' => e = .returned (.bool true) ∧ Below w.heap.size w w' := by
  have S := fun ao cap W hc => msum ao cap [1000000000000, 1000000000000, -1000000000000] W (by simp) hc
  rw [ex5.1, ex5.2] at S
  have S := Lib.hid S
  go_enter Tryd.func14, Tryd.ntmps14
  go_wp2_with fail
  refine (l1 _ ht).mono ?_
  rintro e w1 ⟨rfl, b1⟩
  go_wp2_with fail
  refine (l2 _ (ht.keep b1)).mono ?_
  rintro e w2 ⟨rfl, b2⟩
  have B2 := btr b1 b2
  go_wp2_with fail
  refine (l3 _).mono ?_
  rintro e w3 ⟨rfl, b3⟩
  have B3 := btr B2 b3
  go_wp2_with fail
  refine (l4 _).mono ?_
  rintro e w4 ⟨rfl, b4⟩
  have B4 := btr B3 b4
  go_wp2_with fail
  refine (S.out _ _ _ (fun i hi => ⟨_, _, rfl, ?_⟩)).mono ?_
  · have hi2 : i < 3 := hi
    match i, hi2 with
    | 0, _ => simp [go_sem]
    | 1, _ => simp [go_sem]
    | 2, _ => simp [go_sem]
  rintro e w5 ⟨rfl, rfl⟩
  have B5 := bal B4 (.cells #[.int .i64 1000000000000, .int .i64 1000000000000, .int .i64 (-1000000000000)] 3)
  clear b1 b2 b3 b4 B2 B3
  go_wp2_with fail
  refine (l6 _).mono ?_
  rintro e w6 ⟨rfl, b6⟩
  have B6 := btr B5 b6
  go_wp2_with fail
  refine (l7 _).mono ?_
  rintro e w7 ⟨rfl, rfl⟩
  go_wp2_with fail
  go_ret
  exact ⟨rfl, B6⟩
end Go.Proofs.YtkijbckpfcfcpabDoor
