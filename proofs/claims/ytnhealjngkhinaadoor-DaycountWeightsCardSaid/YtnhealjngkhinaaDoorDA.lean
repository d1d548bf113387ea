/-
  Contracts of the short functions of package date, and of the document's own.
-/
import Derived.Test.YtnhealjngkhinaaDoorProg
import Derived.Test.YtnhealjngkhinaaDoorDM
import Derived.Test.YtnhealjngkhinaaDoorWalkC
import Derived.WalkKit
import Derived.WalkMore
import Derived.Outline
import Derived.Below
import Derived.Lib.Hide
import Derived.Laws.Externs
import Derived.Laws.Slices
import Derived.Laws.Strings3
import Derived.Deep.QuietTactic
import Derived.BigQuiet
import Derived.IntWalk
import Derived.Lib.LaidTab
namespace Go.Proofs.YtnhealjngkhinaaDoor
open Go Go.RowKit Go.Lib WM

theorem quiet_add {P : Program} {f : FuncId} {args : Array Value} {w : World} {a n : Nat} {v : Value}
    (h : Calls P f args (w.drewN (a + n)) fun e w' => e = .returned v ∧ ∃ m, w' = (w.drewN (a + n)).drewN m) :
    Calls P f args (w.drewN (a + n)) fun e w'' => e = .returned v ∧ ∃ m, w'' = w.drewN (a + m) :=
  h.mono fun _ _ ⟨he, m, hm⟩ => ⟨he, n + m, by rw [hm, World.drewN_drewN, Nat.add_assoc]⟩
theorem quiet_add_left {P : Program} {f : FuncId} {args : Array Value} {w : World} {a n : Nat} {v : Value}
    (h : Calls P f args (w.drewN (a + n)) fun e w' => e = .returned v ∧ w.drewN (a + n) = w') :
    Calls P f args (w.drewN (a + n)) fun e w'' => e = .returned v ∧ ∃ m, w'' = w.drewN (a + m) :=
  h.mono fun _ _ ⟨he, hm⟩ => ⟨he, n, hm.symm⟩
theorem quiet_left {P : Program} {f : FuncId} {args : Array Value} {w : World} {n : Nat} {v : Value}
    (h : Calls P f args (w.drewN n) fun e w' => e = .returned v ∧ w.drewN n = w') : Calls P f args (w.drewN n) fun e w'' => e = .returned v ∧ ∃ m, w'' = w.drewN m :=
  h.mono fun _ _ ⟨he, hm⟩ => ⟨he, n, hm.symm⟩

/-- The program's table of the lengths of the months reads as its text lays it. -/
def Ln (w : World) : Prop := Lib.TabIs Tryd.prog w "corebank/date.lengths" .i64 lengthsTab
theorem gLn : Tryd.prog.globalNamed "corebank/date.lengths" = some 2 := by kernel_rfl
theorem Ln.keep {w w' : World} (h : Ln w) (hb : Below w.heap.size w w') : Ln w' := by
  unfold Ln Lib.TabIs World.var? at *
  rw [gLn] at h ⊢
  simp only [Option.bind_some] at h ⊢
  have hlt : 2 < w.heap.size := by
    rcases Nat.lt_or_ge 2 w.heap.size with c | c
    · exact c
    · rw [Array.getElem?_eq_none c] at h; simp at h
  rw [hb.block _ hlt]
  exact h
theorem Ln.drewN {w : World} (h : Ln w) (n : Nat) : Ln (w.drewN n) := h.keep (bdn (bref w) n)
theorem Ln.cell {w : World} (h : Ln w) (i : Nat) (hi : i < 12) : w.cell? ⟨2, i, none⟩ = some (.int .i64 (lengthsTab.getD i 0)) :=
  Lib.TabIs.cell h gLn i hi

theorem mvalid (day : Int) (w : World) : Calls Tryd.prog 43 #[.int .i64 day] w fun e w' => e = .returned (.bool (vdB day)) ∧ w = w' := by
  by_cases h1 : day < 0
  · have HR : Hid (vdB day = false) := Lib.hid (by unfold vdB; simp; omega)
    go_enter Tryd.func43, Tryd.ntmps43
    go_wp2_with fail
    go_ret
    exact ⟨by rw [HR.out]; rfl, rfl⟩
  · have h1' : 0 ≤ day := by omega
    by_cases h2 : day ≤ 73048
    · have HR : Hid (vdB day = true) := Lib.hid (by unfold vdB; simp; omega)
      go_enter Tryd.func43, Tryd.ntmps43
      go_wp2_with fail
      go_ret
      exact ⟨by rw [HR.out]; rfl, rfl⟩
    · have HR : Hid (vdB day = false) := Lib.hid (by unfold vdB; simp; omega)
      go_enter Tryd.func43, Tryd.ntmps43
      go_wp2_with fail
      go_ret
      exact ⟨by rw [HR.out]; rfl, rfl⟩
theorem rvalid (day : Int) (w : World) : Calls Tryd.prog 27 #[.int .i64 day] w fun e w' => e = .returned (.bool (vdB day)) ∧ w = w' := by
  by_cases h1 : day < 0
  · have HR : Hid (vdB day = false) := Lib.hid (by unfold vdB; simp; omega)
    go_enter Tryd.func27, Tryd.ntmps27
    go_wp2_with fail
    go_ret
    exact ⟨by rw [HR.out]; rfl, rfl⟩
  · have h1' : 0 ≤ day := by omega
    by_cases h2 : day ≤ 73048
    · have HR : Hid (vdB day = true) := Lib.hid (by unfold vdB; simp; omega)
      go_enter Tryd.func27, Tryd.ntmps27
      go_wp2_with fail
      go_ret
      exact ⟨by rw [HR.out]; rfl, rfl⟩
    · have HR : Hid (vdB day = false) := Lib.hid (by unfold vdB; simp; omega)
      go_enter Tryd.func27, Tryd.ntmps27
      go_wp2_with fail
      go_ret
      exact ⟨by rw [HR.out]; rfl, rfl⟩

theorem tmod0 (y k : Int) : (y.tmod k == 0) = decide (y % k = 0) := by
  have h : (y.tmod k = 0) ↔ (y % k = 0) := by rw [← Int.dvd_iff_emod_eq_zero, Int.dvd_iff_tmod_eq_zero]
  by_cases c : y % k = 0
  · simp [c, h.2 c]
  · have : ¬ y.tmod k = 0 := fun h' => c (h.1 h')
    simp [c, this]
theorem tmod0n (y k : Int) (c : ¬ y % k = 0) : ¬ y.tmod k = 0 := fun h => c (by rw [← Int.dvd_iff_emod_eq_zero, Int.dvd_iff_tmod_eq_zero]; exact h)
theorem tmod0y (y k : Int) (c : y % k = 0) : y.tmod k = 0 := by rw [← Int.dvd_iff_tmod_eq_zero, Int.dvd_iff_emod_eq_zero]; exact c

theorem mleap (y : Int) (w : World) : Calls Tryd.prog 45 #[.int .i64 y] w fun e w' => e = .returned (.bool (leapB y)) ∧ w = w' := by
  by_cases h4 : y % 4 = 0
  · by_cases h1 : y % 100 = 0
    · by_cases h0 : y % 400 = 0
      · have HR : Hid (leapB y = true) := Lib.hid (by rw [leap_iff]; omega)
        have a := tmod0y y 4 h4; have b := tmod0y y 100 h1; have c := tmod0y y 400 h0
        clear h4 h1 h0
        go_enter Tryd.func45, Tryd.ntmps45
        go_wp2_with fail
        go_ret
        exact ⟨by rw [HR.out]; rfl, rfl⟩
      · have HR : Hid (leapB y = false) := Lib.hid (by rw [Bool.eq_false_iff, ne_eq, leap_iff]; omega)
        have a := tmod0y y 4 h4; have b := tmod0y y 100 h1; have c := tmod0n y 400 h0
        have c2 : (y.tmod 400 == 0) = false := by rw [beq_eq_false_iff_ne]; exact c
        clear h4 h1 h0
        go_enter Tryd.func45, Tryd.ntmps45
        go_wp2_with fail
        go_ret
        exact ⟨by rw [HR.out]; rfl, rfl⟩
    · have HR : Hid (leapB y = true) := Lib.hid (by rw [leap_iff]; omega)
      have a := tmod0y y 4 h4; have b := tmod0n y 100 h1
      clear h4 h1
      go_enter Tryd.func45, Tryd.ntmps45
      go_wp2_with fail
      go_ret
      exact ⟨by rw [HR.out]; rfl, rfl⟩
  · have HR : Hid (leapB y = false) := Lib.hid (by rw [Bool.eq_false_iff, ne_eq, leap_iff]; omega)
    have a := tmod0n y 4 h4
    clear h4
    go_enter Tryd.func45, Tryd.ntmps45
    go_wp2_with fail
    go_ret
    exact ⟨by rw [HR.out]; rfl, rfl⟩
theorem rleap (y : Int) (w : World) : Calls Tryd.prog 47 #[.int .i64 y] w fun e w' => e = .returned (.bool (leapB y)) ∧ w = w' := by
  by_cases h4 : y % 4 = 0
  · by_cases h1 : y % 100 = 0
    · by_cases h0 : y % 400 = 0
      · have HR : Hid (leapB y = true) := Lib.hid (by rw [leap_iff]; omega)
        have a := tmod0y y 4 h4; have b := tmod0y y 100 h1; have c := tmod0y y 400 h0
        clear h4 h1 h0
        go_enter Tryd.func47, Tryd.ntmps47
        go_wp2_with fail
        go_ret
        exact ⟨by rw [HR.out]; rfl, rfl⟩
      · have HR : Hid (leapB y = false) := Lib.hid (by rw [Bool.eq_false_iff, ne_eq, leap_iff]; omega)
        have a := tmod0y y 4 h4; have b := tmod0y y 100 h1; have c := tmod0n y 400 h0
        have c2 : (y.tmod 400 == 0) = false := by rw [beq_eq_false_iff_ne]; exact c
        clear h4 h1 h0
        go_enter Tryd.func47, Tryd.ntmps47
        go_wp2_with fail
        go_ret
        exact ⟨by rw [HR.out]; rfl, rfl⟩
    · have HR : Hid (leapB y = true) := Lib.hid (by rw [leap_iff]; omega)
      have a := tmod0y y 4 h4; have b := tmod0n y 100 h1
      clear h4 h1
      go_enter Tryd.func47, Tryd.ntmps47
      go_wp2_with fail
      go_ret
      exact ⟨by rw [HR.out]; rfl, rfl⟩
  · have HR : Hid (leapB y = false) := Lib.hid (by rw [Bool.eq_false_iff, ne_eq, leap_iff]; omega)
    have a := tmod0n y 4 h4
    clear h4
    go_enter Tryd.func47, Tryd.ntmps47
    go_wp2_with fail
    go_ret
    exact ⟨by rw [HR.out]; rfl, rfl⟩
end Go.Proofs.YtnhealjngkhinaaDoor
