/-
  Contracts of the short functions of package rounding, and of the document's own.
-/
import Derived.Test.YtjhfbnndapopgaaDoorWalkD
import Derived.Test.YtjhfbnndapopgaaDoorRefG
import Derived.Test.YtjhfbnndapopgaaDoorRefE
namespace Go.Proofs.YtjhfbnndapopgaaDoor
open Go Go.RowKit WM

def validB (m : Int) : Bool := decide (1 ≤ m ∧ m ≤ 6)
def goodB (n : Int) : Bool := decide (-1000000000000 ≤ n ∧ n ≤ 1000000000000)

theorem valid_any (m : Int) (w : World) : Calls Tryd.prog 20 #[.int .i64 m] w fun e w' => e = .returned (.bool (validB m)) ∧ w = w' := by
  by_cases h1 : 1 ≤ m
  · by_cases h2 : m ≤ 6
    · have H : Hid (validB m = true) := Lib.hid (by simp [validB, h1, h2])
      go_enter Tryd.func20, Tryd.ntmps20
      go_wp2_with fail
      go_ret
      exact ⟨by rw [H.out]; rfl, rfl⟩
    · have H : Hid (validB m = false) := Lib.hid (by simp [validB]; omega)
      have hd : decide (m ≤ 6) = false := by simpa using h2
      go_enter Tryd.func20, Tryd.ntmps20
      go_wp2_with fail
      go_ret
      exact ⟨by rw [H.out]; rfl, rfl⟩
  · have H : Hid (validB m = false) := Lib.hid (by simp [validB]; omega)
    have hd : decide (1 ≤ m) = false := by simpa using h1
    go_enter Tryd.func20, Tryd.ntmps20
    go_wp2_with fail
    go_ret
    exact ⟨by rw [H.out]; rfl, rfl⟩
theorem rvalid_any (m : Int) (w : World) : Calls Tryd.prog 21 #[.int .i64 m] w fun e w' => e = .returned (.bool (validB m)) ∧ w = w' := by
  by_cases h1 : 1 ≤ m
  · by_cases h2 : m ≤ 6
    · have H : Hid (validB m = true) := Lib.hid (by simp [validB, h1, h2])
      go_enter Tryd.func21, Tryd.ntmps21
      go_wp2_with fail
      go_ret
      exact ⟨by rw [H.out]; rfl, rfl⟩
    · have H : Hid (validB m = false) := Lib.hid (by simp [validB]; omega)
      have hd : decide (m ≤ 6) = false := by simpa using h2
      go_enter Tryd.func21, Tryd.ntmps21
      go_wp2_with fail
      go_ret
      exact ⟨by rw [H.out]; rfl, rfl⟩
  · have H : Hid (validB m = false) := Lib.hid (by simp [validB]; omega)
    have hd : decide (1 ≤ m) = false := by simpa using h1
    go_enter Tryd.func21, Tryd.ntmps21
    go_wp2_with fail
    go_ret
    exact ⟨by rw [H.out]; rfl, rfl⟩
theorem good_any (m : Int) (w : World) : Calls Tryd.prog 54 #[.int .i64 m] w fun e w' => e = .returned (.bool (goodB m)) ∧ w = w' := by
  by_cases h1 : -1000000000000 ≤ m
  · by_cases h2 : m ≤ 1000000000000
    · have H : Hid (goodB m = true) := Lib.hid (by simp [goodB, h1, h2])
      go_enter Tryd.func54, Tryd.ntmps54
      go_wp2_with fail
      go_ret
      exact ⟨by rw [H.out]; rfl, rfl⟩
    · have H : Hid (goodB m = false) := Lib.hid (by simp [goodB]; omega)
      have hd : decide (m ≤ 1000000000000) = false := by simpa using h2
      go_enter Tryd.func54, Tryd.ntmps54
      go_wp2_with fail
      go_ret
      exact ⟨by rw [H.out]; rfl, rfl⟩
  · have H : Hid (goodB m = false) := Lib.hid (by simp [goodB]; omega)
    have hd : decide (-1000000000000 ≤ m) = false := by simpa using h1
    go_enter Tryd.func54, Tryd.ntmps54
    go_wp2_with fail
    go_ret
    exact ⟨by rw [H.out]; rfl, rfl⟩
theorem rgood_any (m : Int) (w : World) : Calls Tryd.prog 34 #[.int .i64 m] w fun e w' => e = .returned (.bool (goodB m)) ∧ w = w' := by
  by_cases h1 : -1000000000000 ≤ m
  · by_cases h2 : m ≤ 1000000000000
    · have H : Hid (goodB m = true) := Lib.hid (by simp [goodB, h1, h2])
      go_enter Tryd.func34, Tryd.ntmps34
      go_wp2_with fail
      go_ret
      exact ⟨by rw [H.out]; rfl, rfl⟩
    · have H : Hid (goodB m = false) := Lib.hid (by simp [goodB]; omega)
      have hd : decide (m ≤ 1000000000000) = false := by simpa using h2
      go_enter Tryd.func34, Tryd.ntmps34
      go_wp2_with fail
      go_ret
      exact ⟨by rw [H.out]; rfl, rfl⟩
  · have H : Hid (goodB m = false) := Lib.hid (by simp [goodB]; omega)
    have hd : decide (-1000000000000 ≤ m) = false := by simpa using h1
    go_enter Tryd.func34, Tryd.ntmps34
    go_wp2_with fail
    go_ret
    exact ⟨by rw [H.out]; rfl, rfl⟩
end Go.Proofs.YtjhfbnndapopgaaDoor
