/-
  Contracts of Day, Weekday and MonthEnd, the program's and the document's own.
-/
import Derived.Test.YtgljaopnehdgdaaDoorDC
namespace Go.Proofs.YtgljaopnehdgdaaDoor
open Go Go.RowKit Go.Lib WM



theorem mweek (day : Int) (w : World) : Calls Tryd.prog 53 #[.int .i64 day] w fun e w' => e = .returned (.int .i64 (if vdB day = true then (day + 5) % 7 else -1)) ∧ w = w' := by
  have V := fun W => mvalid day W
  cases h : vdB day
  · rw [h] at V
    have V := Lib.hid V
    clear h
    go_enter Tryd.func53, Tryd.ntmps53
    go_wp2_with fail
    refine (V.out _).mono ?_
    rintro e w1 ⟨rfl, rfl⟩
    go_wp2_with fail
    go_ret
    exact ⟨rfl, rfl⟩
  · have hb : 0 ≤ day ∧ day ≤ 73048 := by simpa [vdB] using h
    obtain ⟨b0, b1⟩ := hb
    rw [h] at V
    have V := Lib.hid V
    clear h
    go_enter Tryd.func53, Tryd.ntmps53
    go_wp2_with fail
    refine (V.out _).mono ?_
    rintro e w1 ⟨rfl, rfl⟩
    go_wp2_with fail
    go_ret
    exact ⟨rfl, rfl⟩
theorem rweek (day : Int) (w : World) : Calls Tryd.prog 44 #[.int .i64 day] w fun e w' => e = .returned (.int .i64 (if vdB day = true then (day + 5) % 7 else -1)) ∧ w = w' := by
  have V := fun W => rvalid day W
  cases h : vdB day
  · rw [h] at V
    have V := Lib.hid V
    clear h
    go_enter Tryd.func44, Tryd.ntmps44
    go_wp2_with fail
    refine (V.out _).mono ?_
    rintro e w1 ⟨rfl, rfl⟩
    go_wp2_with fail
    go_ret
    exact ⟨rfl, rfl⟩
  · have hb : 0 ≤ day ∧ day ≤ 73048 := by simpa [vdB] using h
    obtain ⟨b0, b1⟩ := hb
    rw [h] at V
    have V := Lib.hid V
    clear h
    go_enter Tryd.func44, Tryd.ntmps44
    go_wp2_with fail
    refine (V.out _).mono ?_
    rintro e w1 ⟨rfl, rfl⟩
    go_wp2_with fail
    go_ret
    exact ⟨rfl, rfl⟩
theorem mend_no (day : Int) (h : vdB day = false) (w : World) : Calls Tryd.prog 55 #[.int .i64 day] w fun e w' => e = .returned (.int .i64 (-1)) ∧ w = w' := by
  have V := fun W => mvalid day W
  rw [h] at V
  have V := Lib.hid V
  clear h
  go_enter Tryd.func55, Tryd.ntmps55
  go_wp2_with fail
  refine (V.out _).mono ?_
  rintro e w1 ⟨rfl, rfl⟩
  go_wp2_with fail
  go_ret
  exact ⟨rfl, rfl⟩
theorem mend (day y m d : Int) (h : Civ day y m d) (w : World) (hL : Ln w) : Calls Tryd.prog 55 #[.int .i64 day] w fun e w' => e = .returned (.int .i64 (day + lenI y m - d)) ∧ w = w' := by
  have V := fun W => mvalid day W
  rw [h.vd] at V
  have C := mcivil day y m d h w hL
  have K := mlength y m h.m0 h.m1 w hL
  obtain ⟨b0, b1⟩ := h.valid
  obtain ⟨l0, l1⟩ := len_bd0 y m
  have d0 := h.d0; have d1 := h.d1
  obtain ⟨Z, hZ⟩ : ∃ Z, lenI y m = Z := ⟨_, rfl⟩
  rw [hZ] at K l0 l1 d1 ⊢
  have V := Lib.hid V; have C := Lib.hid C; have K := Lib.hid K
  clear h hZ
  go_enter Tryd.func55, Tryd.ntmps55
  go_wp2_with fail
  refine (V.out _).mono ?_
  rintro e w1 ⟨rfl, rfl⟩
  go_wp2_with fail
  refine C.out.mono ?_
  rintro e w1 ⟨rfl, rfl⟩
  go_wp2_with fail
  refine K.out.mono ?_
  rintro e w1 ⟨rfl, rfl⟩
  go_wp2_with fail
  go_ret
  have e1 : day + Z - d = day - d + Z := by omega
  exact ⟨by rw [e1]; rfl, rfl⟩
theorem rend_no (day : Int) (h : vdB day = false) (w : World) : Calls Tryd.prog 46 #[.int .i64 day] w fun e w' => e = .returned (.int .i64 (-1)) ∧ w = w' := by
  have V := fun W => rvalid day W
  rw [h] at V
  have V := Lib.hid V
  clear h
  go_enter Tryd.func46, Tryd.ntmps46
  go_wp2_with fail
  refine (V.out _).mono ?_
  rintro e w1 ⟨rfl, rfl⟩
  go_wp2_with fail
  go_ret
  exact ⟨rfl, rfl⟩
theorem rend (day y m d : Int) (h : Civ day y m d) (w : World) : Calls Tryd.prog 46 #[.int .i64 day] w fun e w' => e = .returned (.int .i64 (day + lenI y m - d)) ∧ w = w' := by
  have V := fun W => rvalid day W
  rw [h.vd] at V
  have C := rcivil day y m d h w
  have K := rlength y m w
  obtain ⟨b0, b1⟩ := h.valid
  obtain ⟨l0, l1⟩ := len_bd0 y m
  have d0 := h.d0; have d1 := h.d1
  obtain ⟨Z, hZ⟩ : ∃ Z, lenI y m = Z := ⟨_, rfl⟩
  rw [hZ] at K l0 l1 d1 ⊢
  have V := Lib.hid V; have C := Lib.hid C; have K := Lib.hid K
  clear h hZ
  go_enter Tryd.func46, Tryd.ntmps46
  go_wp2_with fail
  refine (V.out _).mono ?_
  rintro e w1 ⟨rfl, rfl⟩
  go_wp2_with fail
  refine C.out.mono ?_
  rintro e w1 ⟨rfl, rfl⟩
  go_wp2_with fail
  refine K.out.mono ?_
  rintro e w1 ⟨rfl, rfl⟩
  go_wp2_with fail
  go_ret
  exact ⟨rfl, rfl⟩
end Go.Proofs.YtgljaopnehdgdaaDoor
