/-
  Contracts of AddMonths, the program's and the document's own.
-/
import Derived.Test.YtipoccelkgijgaaDoorDD
namespace Go.Proofs.YtipoccelkgijgaaDoor
open Go Go.RowKit Go.Lib WM

def amOk (n a : Int) : Bool := decide (-2400 ≤ n ∧ n ≤ 2400 ∧ 1 ≤ a ∧ a ≤ 31)
def amY (y m n : Int) : Int := (y * 12 + m - 1 + n) / 12
def amM (y m n : Int) : Int := (y * 12 + m - 1 + n) % 12 + 1
def amV (y m n a : Int) : Int := if amOk n a = true then dayV (amY y m n) (amM y m n) (min a (lenI (amY y m n) (amM y m n))) else 0
def amE (y m n a : Int) : Int := if amOk n a = true then dayE (amY y m n) (amM y m n) (min a (lenI (amY y m n) (amM y m n))) else 1
theorem am_iff (n a : Int) : amOk n a = true ↔ (-2400 ≤ n ∧ n ≤ 2400 ∧ 1 ≤ a ∧ a ≤ 31) := by simp [amOk]
theorem am_not (y m n a : Int) (h : ¬ (-2400 ≤ n ∧ n ≤ 2400 ∧ 1 ≤ a ∧ a ≤ 31)) : amV y m n a = 0 ∧ amE y m n a = 1 := by
  have : amOk n a = false := by
    cases c : amOk n a
    · rfl
    · exact absurd ((am_iff n a).1 c) h
  unfold amV amE
  rw [this]
  exact ⟨rfl, rfl⟩
theorem am_yes (y m n a : Int) (h : -2400 ≤ n ∧ n ≤ 2400 ∧ 1 ≤ a ∧ a ≤ 31) : amV y m n a = dayV (amY y m n) (amM y m n) (min a (lenI (amY y m n) (amM y m n))) ∧ amE y m n a = dayE (amY y m n) (amM y m n) (min a (lenI (amY y m n) (amM y m n))) := by
  unfold amV amE
  rw [(am_iff n a).2 h]
  exact ⟨rfl, rfl⟩
theorem am_low (y m n a : Int) (h : y * 12 + m - 1 + n < 24000) : amV y m n a = 0 ∧ amE y m n a = 1 := by
  by_cases c : -2400 ≤ n ∧ n ≤ 2400 ∧ 1 ≤ a ∧ a ≤ 31
  · obtain ⟨e1, e2⟩ := am_yes y m n a c
    have hY : amY y m n < 2000 := by unfold amY; omega
    obtain ⟨f1, f2⟩ := date_no (amY y m n) (amM y m n) (min a (lenI (amY y m n) (amM y m n))) (date_not _ _ _ (by rintro ⟨h1, _⟩; omega))
    rw [e1, e2, f1, f2]
    exact ⟨rfl, rfl⟩
  · exact am_not y m n a c

theorem mam_no (day n a : Int) (h : vdB day = false) (w : World) : Calls Tryd.prog 24 #[.int .i64 day, .int .i64 n, .int .i64 a] w fun e w' => e = .returned (.tuple #[.int .i64 0, .int .i64 1]) ∧ w = w' := by
  have V := fun W => mvalid day W
  rw [h] at V
  have V := Lib.hid V
  clear h
  go_enter Tryd.func24, Tryd.ntmps24
  go_wp2_with fail
  refine (V.out _).mono ?_
  rintro e w1 ⟨rfl, rfl⟩
  go_wp2_with fail
  go_ret2
  exact ⟨rfl, rfl⟩
set_option maxHeartbeats 2000000 in
theorem mam (day y m d n a : Int) (h : Civ day y m d) (w : World) (hL : Ln w) : Calls Tryd.prog 24 #[.int .i64 day, .int .i64 n, .int .i64 a] w fun e w' => e = .returned (.tuple #[.int .i64 (amV y m n a), .int .i64 (amE y m n a)]) ∧ w = w' := by
  have V := fun W => mvalid day W
  rw [h.vd] at V
  have V := Lib.hid V
  by_cases c0 : n < -2400
  · have HR := Lib.hid (am_not y m n a (by omega))
    go_enter Tryd.func24, Tryd.ntmps24
    go_wp2_with fail
    refine (V.out _).mono ?_
    rintro e w1 ⟨rfl, rfl⟩
    go_wp2_with fail
    go_ret2
    exact ⟨by rw [HR.out.1, HR.out.2]; rfl, rfl⟩
  by_cases c1 : 2400 < n
  · have HR := Lib.hid (am_not y m n a (by omega))
    go_enter Tryd.func24, Tryd.ntmps24
    go_wp2_with fail
    refine (V.out _).mono ?_
    rintro e w1 ⟨rfl, rfl⟩
    go_wp2_with fail
    go_ret2
    exact ⟨by rw [HR.out.1, HR.out.2]; rfl, rfl⟩
  by_cases c2 : a < 1
  · have HR := Lib.hid (am_not y m n a (by omega))
    go_enter Tryd.func24, Tryd.ntmps24
    go_wp2_with fail
    refine (V.out _).mono ?_
    rintro e w1 ⟨rfl, rfl⟩
    go_wp2_with fail
    go_ret2
    exact ⟨by rw [HR.out.1, HR.out.2]; rfl, rfl⟩
  by_cases c3 : 31 < a
  · have HR := Lib.hid (am_not y m n a (by omega))
    go_enter Tryd.func24, Tryd.ntmps24
    go_wp2_with fail
    refine (V.out _).mono ?_
    rintro e w1 ⟨rfl, rfl⟩
    go_wp2_with fail
    go_ret2
    exact ⟨by rw [HR.out.1, HR.out.2]; rfl, rfl⟩
  have C := mcivil day y m d h w hL
  have C := Lib.hid C
  have y0 := h.y0; have y1 := h.y1; have m0 := h.m0; have m1 := h.m1
  clear h
  have HR := am_yes y m n a (by omega)
  have k0 : 1 ≤ amM y m n := by unfold amM; omega
  have k1 : amM y m n ≤ 12 := by unfold amM; omega
  have K := mlength (amY y m n) (amM y m n) k0 k1 w hL
  have D := mday (amY y m n) (amM y m n) (min a (lenI (amY y m n) (amM y m n))) w hL
  obtain ⟨l0, l1⟩ := len_bd0 (amY y m n) (amM y m n)
  unfold amY amM at K D HR l0 l1 k0 k1
  obtain ⟨Z, hZ⟩ : ∃ Z, lenI ((y * 12 + m - 1 + n) / 12) ((y * 12 + m - 1 + n) % 12 + 1) = Z := ⟨_, rfl⟩
  rw [hZ] at K D HR l0 l1
  have K := Lib.hid K
  clear hZ k0 k1
  by_cases c6 : a ≤ Z
  · rw [show min a Z = a by omega] at D HR
    have D := Lib.hid D; have HR := Lib.hid HR
    go_enter Tryd.func24, Tryd.ntmps24
    go_wp2_with fail
    refine (V.out _).mono ?_
    rintro e w1 ⟨rfl, rfl⟩
    go_wp2_with fail
    refine C.out.mono ?_
    rintro e w1 ⟨rfl, rfl⟩
    go_wp2_with fail
    refine K.out.mono ?_
    rintro e w1 ⟨rfl, rfl⟩
    go_wp2_with fail
    with_reducible refine D.out.mono ?_
    rintro e w1 ⟨rfl, rfl⟩
    go_wp2_with fail
    go_ret2
    exact ⟨by rw [HR.out.1, HR.out.2]; rfl, rfl⟩
  · rw [show min a Z = Z by omega] at D HR
    have D := Lib.hid D; have HR := Lib.hid HR
    go_enter Tryd.func24, Tryd.ntmps24
    go_wp2_with fail
    refine (V.out _).mono ?_
    rintro e w1 ⟨rfl, rfl⟩
    go_wp2_with fail
    refine C.out.mono ?_
    rintro e w1 ⟨rfl, rfl⟩
    go_wp2_with fail
    refine K.out.mono ?_
    rintro e w1 ⟨rfl, rfl⟩
    go_wp2_with fail
    with_reducible refine D.out.mono ?_
    rintro e w1 ⟨rfl, rfl⟩
    go_wp2_with fail
    go_ret2
    exact ⟨by rw [HR.out.1, HR.out.2]; rfl, rfl⟩
theorem ram_no (day n a : Int) (h : vdB day = false) (w : World) : Calls Tryd.prog 25 #[.int .i64 day, .int .i64 n, .int .i64 a] w fun e w' => e = .returned (.tuple #[.int .i64 0, .int .i64 1]) ∧ w = w' := by
  have V := fun W => rvalid day W
  rw [h] at V
  have V := Lib.hid V
  clear h
  go_enter Tryd.func25, Tryd.ntmps25
  go_wp2_with fail
  refine (V.out _).mono ?_
  rintro e w1 ⟨rfl, rfl⟩
  go_wp2_with fail
  go_ret2
  exact ⟨rfl, rfl⟩
set_option maxHeartbeats 2000000 in
theorem ram (day y m d n a : Int) (h : Civ day y m d) (w : World) : Calls Tryd.prog 25 #[.int .i64 day, .int .i64 n, .int .i64 a] w fun e w' => e = .returned (.tuple #[.int .i64 (amV y m n a), .int .i64 (amE y m n a)]) ∧ w = w' := by
  have V := fun W => rvalid day W
  rw [h.vd] at V
  have V := Lib.hid V
  by_cases c0 : n < -2400
  · have HR := Lib.hid (am_not y m n a (by omega))
    go_enter Tryd.func25, Tryd.ntmps25
    go_wp2_with fail
    refine (V.out _).mono ?_
    rintro e w1 ⟨rfl, rfl⟩
    go_wp2_with fail
    go_ret2
    exact ⟨by rw [HR.out.1, HR.out.2]; rfl, rfl⟩
  by_cases c1 : 2400 < n
  · have HR := Lib.hid (am_not y m n a (by omega))
    go_enter Tryd.func25, Tryd.ntmps25
    go_wp2_with fail
    refine (V.out _).mono ?_
    rintro e w1 ⟨rfl, rfl⟩
    go_wp2_with fail
    go_ret2
    exact ⟨by rw [HR.out.1, HR.out.2]; rfl, rfl⟩
  by_cases c2 : a < 1
  · have HR := Lib.hid (am_not y m n a (by omega))
    go_enter Tryd.func25, Tryd.ntmps25
    go_wp2_with fail
    refine (V.out _).mono ?_
    rintro e w1 ⟨rfl, rfl⟩
    go_wp2_with fail
    go_ret2
    exact ⟨by rw [HR.out.1, HR.out.2]; rfl, rfl⟩
  by_cases c3 : 31 < a
  · have HR := Lib.hid (am_not y m n a (by omega))
    go_enter Tryd.func25, Tryd.ntmps25
    go_wp2_with fail
    refine (V.out _).mono ?_
    rintro e w1 ⟨rfl, rfl⟩
    go_wp2_with fail
    go_ret2
    exact ⟨by rw [HR.out.1, HR.out.2]; rfl, rfl⟩
  have C := rcivil day y m d h w
  have C := Lib.hid C
  have y0 := h.y0; have y1 := h.y1; have m0 := h.m0; have m1 := h.m1
  clear h
  by_cases c5 : y * 12 + m - 1 + n < 24000
  · have HR := Lib.hid (am_low y m n a c5)
    go_enter Tryd.func25, Tryd.ntmps25
    go_wp2_with fail
    refine (V.out _).mono ?_
    rintro e w1 ⟨rfl, rfl⟩
    go_wp2_with fail
    refine C.out.mono ?_
    rintro e w1 ⟨rfl, rfl⟩
    go_wp2_with fail
    go_ret2
    exact ⟨by rw [HR.out.1, HR.out.2]; rfl, rfl⟩
  have HR := am_yes y m n a (by omega)
  have k0 : 1 ≤ amM y m n := by unfold amM; omega
  have k1 : amM y m n ≤ 12 := by unfold amM; omega
  have K := rlength (amY y m n) (amM y m n) w
  have D := rday (amY y m n) (amM y m n) (min a (lenI (amY y m n) (amM y m n))) w
  obtain ⟨l0, l1⟩ := len_bd0 (amY y m n) (amM y m n)
  unfold amY amM at K D HR l0 l1 k0 k1
  obtain ⟨Z, hZ⟩ : ∃ Z, lenI ((y * 12 + m - 1 + n) / 12) ((y * 12 + m - 1 + n) % 12 + 1) = Z := ⟨_, rfl⟩
  rw [hZ] at K D HR l0 l1
  have K := Lib.hid K
  clear hZ k0 k1
  by_cases c6 : a ≤ Z
  · rw [show min a Z = a by omega] at D HR
    have D := Lib.hid D; have HR := Lib.hid HR
    go_enter Tryd.func25, Tryd.ntmps25
    go_wp2_with fail
    refine (V.out _).mono ?_
    rintro e w1 ⟨rfl, rfl⟩
    go_wp2_with fail
    refine C.out.mono ?_
    rintro e w1 ⟨rfl, rfl⟩
    go_wp2_with fail
    refine K.out.mono ?_
    rintro e w1 ⟨rfl, rfl⟩
    go_wp2_with fail
    with_reducible refine D.out.mono ?_
    rintro e w1 ⟨rfl, rfl⟩
    go_wp2_with fail
    go_ret2
    exact ⟨by rw [HR.out.1, HR.out.2]; rfl, rfl⟩
  · rw [show min a Z = Z by omega] at D HR
    have D := Lib.hid D; have HR := Lib.hid HR
    go_enter Tryd.func25, Tryd.ntmps25
    go_wp2_with fail
    refine (V.out _).mono ?_
    rintro e w1 ⟨rfl, rfl⟩
    go_wp2_with fail
    refine C.out.mono ?_
    rintro e w1 ⟨rfl, rfl⟩
    go_wp2_with fail
    refine K.out.mono ?_
    rintro e w1 ⟨rfl, rfl⟩
    go_wp2_with fail
    with_reducible refine D.out.mono ?_
    rintro e w1 ⟨rfl, rfl⟩
    go_wp2_with fail
    go_ret2
    exact ⟨by rw [HR.out.1, HR.out.2]; rfl, rfl⟩
end Go.Proofs.YtipoccelkgijgaaDoor
