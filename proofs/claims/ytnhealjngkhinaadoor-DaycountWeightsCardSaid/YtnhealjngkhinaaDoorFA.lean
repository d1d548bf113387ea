/-
  Contracts of package daycount: 30E/360, weights, sums; the program's and the document's own (gen_fa.py writes this text).
-/
import Derived.Test.YtnhealjngkhinaaDoorDD
import Derived.Test.YtnhealjngkhinaaDoorFM
namespace Go.Proofs.YtnhealjngkhinaaDoor
open Go Go.RowKit Go.Lib WM

theorem mbasis (b : Int) (w : World) : Calls Tryd.prog 17 #[.int .i64 b] w fun e w' => e = .returned (.bool (bsB b)) ∧ w = w' := by
  by_cases h1 : b < 1
  · have HR : Hid (bsB b = false) := Lib.hid (by unfold bsB; simp; omega)
    go_enter Tryd.func17, Tryd.ntmps17
    go_wp2_with fail
    go_ret
    exact ⟨by rw [HR.out]; rfl, rfl⟩
  · have h1' : 1 ≤ b := by omega
    by_cases h2 : b ≤ 4
    · have HR : Hid (bsB b = true) := Lib.hid (by unfold bsB; simp; omega)
      go_enter Tryd.func17, Tryd.ntmps17
      go_wp2_with fail
      go_ret
      exact ⟨by rw [HR.out]; rfl, rfl⟩
    · have HR : Hid (bsB b = false) := Lib.hid (by unfold bsB; simp; omega)
      go_enter Tryd.func17, Tryd.ntmps17
      go_wp2_with fail
      go_ret
      exact ⟨by rw [HR.out]; rfl, rfl⟩
theorem rbasis (b : Int) (w : World) : Calls Tryd.prog 18 #[.int .i64 b] w fun e w' => e = .returned (.bool (bsB b)) ∧ w = w' := by
  by_cases h1 : b < 1
  · have HR : Hid (bsB b = false) := Lib.hid (by unfold bsB; simp; omega)
    go_enter Tryd.func18, Tryd.ntmps18
    go_wp2_with fail
    go_ret
    exact ⟨by rw [HR.out]; rfl, rfl⟩
  · have h1' : 1 ≤ b := by omega
    by_cases h2 : b ≤ 4
    · have HR : Hid (bsB b = true) := Lib.hid (by unfold bsB; simp; omega)
      go_enter Tryd.func18, Tryd.ntmps18
      go_wp2_with fail
      go_ret
      exact ⟨by rw [HR.out]; rfl, rfl⟩
    · have HR : Hid (bsB b = false) := Lib.hid (by unfold bsB; simp; omega)
      go_enter Tryd.func18, Tryd.ntmps18
      go_wp2_with fail
      go_ret
      exact ⟨by rw [HR.out]; rfl, rfl⟩

/-- The program's days of 30E/360 up to a day. -/
theorem m30 {day : Int} (h : vdB day = true) (w : World) (hL : Ln w) :
    Calls Tryd.prog 49 #[.int .i64 day] w fun e w' => e = .returned (.int .i64 (t30 day)) ∧ w = w' := by
  have C := mcivil day _ _ _ (civ_c h) w hL
  have HR : t30 day = cY day * 360 + cM day * 30 + min (cD day) 30 := rfl
  obtain ⟨y0, y1, m0, m1, d0, d1, _, _⟩ := in_year h
  obtain ⟨Y, hY⟩ : ∃ Y, cY day = Y := ⟨_, rfl⟩
  obtain ⟨M, hM⟩ : ∃ Y, cM day = Y := ⟨_, rfl⟩
  obtain ⟨D, hD⟩ : ∃ Y, cD day = Y := ⟨_, rfl⟩
  rw [hY, hM, hD] at C HR
  rw [hY] at y0 y1; rw [hM] at m0 m1; rw [hD] at d0 d1
  have C := Lib.hid C
  clear hY hM hD h
  by_cases c : D < 30
  · have hmin : min D 30 = D := by omega
    rw [hmin] at HR
    have HR := Lib.hid HR
    have c' : ¬ 30 < D := by omega
    go_enter Tryd.func49, Tryd.ntmps49
    go_wp2_with fail
    refine C.out.mono ?_
    rintro e w1 ⟨rfl, rfl⟩
    go_wp2_with fail
    go_ret
    exact ⟨by rw [HR.out]; rfl, rfl⟩
  · have hmin : min D 30 = 30 := by omega
    rw [hmin] at HR
    have HR := Lib.hid HR
    have c' : 30 ≤ D := by omega
    go_enter Tryd.func49, Tryd.ntmps49
    go_wp2_with fail
    refine C.out.mono ?_
    rintro e w1 ⟨rfl, rfl⟩
    go_wp2_with fail
    go_ret
    exact ⟨by rw [HR.out]; rfl, rfl⟩

set_option maxHeartbeats 1000000 in
theorem mthirty (f t : Int) (w : World) (hL : Ln w) :
    Calls Tryd.prog 22 #[.int .i64 f, .int .i64 t] w fun e w' => e = .returned (.int .i64 (thI f t)) ∧ w = w' := by
  have V1 := mvalid f w
  have V2 := mvalid t w
  cases hf : vdB f
  · have HR := Lib.hid (thI_no (f := f) (t := t) (Or.inl hf))
    rw [hf] at V1
    have V1 := Lib.hid V1; have V2 := Lib.hid V2
    clear hf
    go_enter Tryd.func22, Tryd.ntmps22
    go_wp2_with fail
    refine V1.out.mono ?_
    rintro e w1 ⟨rfl, rfl⟩
    go_wp2_with fail
    go_ret
    exact ⟨by rw [HR.out]; rfl, rfl⟩
  · cases ht : vdB t
    · have HR := Lib.hid (thI_no (f := f) (t := t) (Or.inr ht))
      rw [hf] at V1; rw [ht] at V2
      have V1 := Lib.hid V1; have V2 := Lib.hid V2
      clear hf ht
      go_enter Tryd.func22, Tryd.ntmps22
      go_wp2_with fail
      refine V1.out.mono ?_
      rintro e w1 ⟨rfl, rfl⟩
      go_wp2_with fail
      refine V2.out.mono ?_
      rintro e w1 ⟨rfl, rfl⟩
      go_wp2_with fail
      go_ret
      exact ⟨by rw [HR.out]; rfl, rfl⟩
    · have HR := thI_yes hf ht
      have C1 := m30 hf w hL
      have C2 := m30 ht w hL
      obtain ⟨b1, b2⟩ := t30_bd hf
      obtain ⟨b3, b4⟩ := t30_bd ht
      obtain ⟨X, hX⟩ : ∃ Y, t30 f = Y := ⟨_, rfl⟩
      obtain ⟨Z, hZ⟩ : ∃ Y, t30 t = Y := ⟨_, rfl⟩
      rw [hX] at C1 b1 b2; rw [hZ] at C2 b3 b4; rw [hX, hZ] at HR
      rw [hf] at V1; rw [ht] at V2
      have V1 := Lib.hid V1; have V2 := Lib.hid V2; have C1 := Lib.hid C1; have C2 := Lib.hid C2; have HR := Lib.hid HR
      clear hf ht hX hZ
      go_enter Tryd.func22, Tryd.ntmps22
      go_wp2_with fail
      refine V1.out.mono ?_
      rintro e w1 ⟨rfl, rfl⟩
      go_wp2_with fail
      refine V2.out.mono ?_
      rintro e w1 ⟨rfl, rfl⟩
      go_wp2_with fail
      refine C2.out.mono ?_
      rintro e w1 ⟨rfl, rfl⟩
      go_wp2_with fail
      refine C1.out.mono ?_
      rintro e w1 ⟨rfl, rfl⟩
      go_wp2_with fail
      go_ret
      exact ⟨by rw [HR.out]; rfl, rfl⟩

set_option maxHeartbeats 1000000 in
theorem rthirty (f t : Int) (w : World) :
    Calls Tryd.prog 23 #[.int .i64 f, .int .i64 t] w fun e w' => e = .returned (.int .i64 (thI f t)) ∧ w = w' := by
  have V1 := rvalid f w
  have V2 := rvalid t w
  cases hf : vdB f
  · have HR := Lib.hid (thI_no (f := f) (t := t) (Or.inl hf))
    rw [hf] at V1
    have V1 := Lib.hid V1; have V2 := Lib.hid V2
    clear hf
    go_enter Tryd.func23, Tryd.ntmps23
    go_wp2_with fail
    refine V1.out.mono ?_
    rintro e w1 ⟨rfl, rfl⟩
    go_wp2_with fail
    go_ret
    exact ⟨by rw [HR.out]; rfl, rfl⟩
  · cases ht : vdB t
    · have HR := Lib.hid (thI_no (f := f) (t := t) (Or.inr ht))
      rw [hf] at V1; rw [ht] at V2
      have V1 := Lib.hid V1; have V2 := Lib.hid V2
      clear hf ht
      go_enter Tryd.func23, Tryd.ntmps23
      go_wp2_with fail
      refine V1.out.mono ?_
      rintro e w1 ⟨rfl, rfl⟩
      go_wp2_with fail
      refine V2.out.mono ?_
      rintro e w1 ⟨rfl, rfl⟩
      go_wp2_with fail
      go_ret
      exact ⟨by rw [HR.out]; rfl, rfl⟩
    · have HR := thI_yes hf ht
      have C1 := rcivil f _ _ _ (civ_c hf) w
      have C2 := rcivil t _ _ _ (civ_c ht) w
      obtain ⟨y0, y1, m0, m1, d0, d1, _, _⟩ := in_year hf
      obtain ⟨z0, z1, n0, n1, e0, e1, _, _⟩ := in_year ht
      unfold t30 at HR
      obtain ⟨Y, hY⟩ : ∃ Y, cY f = Y := ⟨_, rfl⟩
      obtain ⟨M, hM⟩ : ∃ Y, cM f = Y := ⟨_, rfl⟩
      obtain ⟨D, hD⟩ : ∃ Y, cD f = Y := ⟨_, rfl⟩
      obtain ⟨Y2, hY2⟩ : ∃ Y, cY t = Y := ⟨_, rfl⟩
      obtain ⟨M2, hM2⟩ : ∃ Y, cM t = Y := ⟨_, rfl⟩
      obtain ⟨D2, hD2⟩ : ∃ Y, cD t = Y := ⟨_, rfl⟩
      rw [hY, hM, hD] at C1
      rw [hY2, hM2, hD2] at C2
      rw [hY, hM, hD, hY2, hM2, hD2] at HR
      rw [hY] at y0 y1; rw [hM] at m0 m1; rw [hD] at d0 d1
      rw [hY2] at z0 z1; rw [hM2] at n0 n1; rw [hD2] at e0 e1
      rw [hf] at V1; rw [ht] at V2
      have V1 := Lib.hid V1; have V2 := Lib.hid V2; have C1 := Lib.hid C1; have C2 := Lib.hid C2
      clear hf ht hY hM hD hY2 hM2 hD2
      have HR : Hid (thI f t = 360 * (Y2 - Y) + 30 * (M2 - M) + min D2 30 - min D 30) := Lib.hid (by omega)
      go_enter Tryd.func23, Tryd.ntmps23
      go_wp2_with fail
      refine V1.out.mono ?_
      rintro e w1 ⟨rfl, rfl⟩
      go_wp2_with fail
      refine V2.out.mono ?_
      rintro e w1 ⟨rfl, rfl⟩
      go_wp2_with fail
      refine C1.out.mono ?_
      rintro e w1 ⟨rfl, rfl⟩
      go_wp2_with fail
      refine C2.out.mono ?_
      rintro e w1 ⟨rfl, rfl⟩
      go_wp2_with fail
      go_ret
      exact ⟨by rw [HR.out]; rfl, rfl⟩

set_option maxHeartbeats 2000000 in
theorem mweight (b day : Int) (w : World) (hL : Ln w) :
    Calls Tryd.prog 19 #[.int .i64 b, .int .i64 day] w fun e w' => e = .returned (.int .i64 (wtI b day)) ∧ w = w' := by
  have V := mvalid day w
  cases hv : vdB day
  · have HR : Hid (wtI b day = 0) := Lib.hid (by unfold wtI; rw [hv]; rfl)
    rw [hv] at V
    have V := Lib.hid V
    clear hv
    go_enter Tryd.func19, Tryd.ntmps19
    go_wp2_with fail
    refine V.out.mono ?_
    rintro e w1 ⟨rfl, rfl⟩
    go_wp2_with fail
    go_ret
    exact ⟨by rw [HR.out]; rfl, rfl⟩
  · have HR : wtI b day = if b = 3 then acI (cY day) else if b = 4 then 4453 * thI day (day + 1) else csI b := by unfold wtI; rw [hv]; rfl
    have bd := (vd_iff day).1 hv
    obtain ⟨d0, d1⟩ := bd
    have C := mcivil day _ _ _ (civ_c hv) w hL
    have TH := mthirty day (day + 1) w hL
    obtain ⟨t0, t1⟩ := thI_bd day (day + 1)
    obtain ⟨T, hT⟩ : ∃ T, thI day (day + 1) = T := ⟨_, rfl⟩
    obtain ⟨Y, hY⟩ : ∃ T, cY day = T := ⟨_, rfl⟩
    obtain ⟨M, hM⟩ : ∃ T, cM day = T := ⟨_, rfl⟩
    obtain ⟨D, hD⟩ : ∃ T, cD day = T := ⟨_, rfl⟩
    rw [hT] at HR TH t0 t1
    rw [hY] at HR
    rw [hY, hM, hD] at C
    have GL := mleap Y w
    rw [hv] at V
    have V := Lib.hid V; have C := Lib.hid C; have TH := Lib.hid TH
    clear hv hT hY hM hD
    by_cases b3 : b = 3
    · subst b3
      rw [if_pos rfl] at HR
      unfold acI at HR
      cases hl : leapB Y
      all_goals
        rw [hl] at HR GL
        have HR := Lib.hid HR
        have GL := Lib.hid GL
        clear hl
        go_enter Tryd.func19, Tryd.ntmps19
        go_wp2_with fail
        refine V.out.mono ?_
        rintro e w1 ⟨rfl, rfl⟩
        go_wp2_with fail
        refine C.out.mono ?_
        rintro e w1 ⟨rfl, rfl⟩
        go_wp2_with fail
        refine GL.out.mono ?_
        rintro e w1 ⟨rfl, rfl⟩
        go_wp2_with fail
        go_ret
        exact ⟨by rw [HR.out]; rfl, rfl⟩
    · rw [if_neg b3] at HR
      by_cases b4 : b = 4
      · subst b4
        rw [if_pos rfl] at HR
        have HR := Lib.hid HR
        clear GL b3
        go_enter Tryd.func19, Tryd.ntmps19
        go_wp2_with fail
        refine V.out.mono ?_
        rintro e w1 ⟨rfl, rfl⟩
        go_wp2_with fail
        refine TH.out.mono ?_
        rintro e w1 ⟨rfl, rfl⟩
        go_wp2_with fail
        go_ret
        exact ⟨by rw [HR.out]; rw [Int.mul_comm]; rfl, rfl⟩
      · rw [if_neg b4] at HR
        unfold csI at HR
        clear GL
        by_cases b1 : b = 1
        · subst b1
          rw [if_pos rfl] at HR
          have HR := Lib.hid HR
          clear b3 b4
          go_enter Tryd.func19, Tryd.ntmps19
          go_wp2_with fail
          refine V.out.mono ?_
          rintro e w1 ⟨rfl, rfl⟩
          go_wp2_with fail
          go_ret
          exact ⟨by rw [HR.out]; rfl, rfl⟩
        · rw [if_neg b1] at HR
          by_cases b2 : b = 2
          · subst b2
            rw [if_pos rfl] at HR
            have HR := Lib.hid HR
            clear b3 b4 b1
            go_enter Tryd.func19, Tryd.ntmps19
            go_wp2_with fail
            refine V.out.mono ?_
            rintro e w1 ⟨rfl, rfl⟩
            go_wp2_with fail
            go_ret
            exact ⟨by rw [HR.out]; rfl, rfl⟩
          · rw [if_neg b2] at HR
            have HR := Lib.hid HR
            have q1 : (b == 1) = false := by rw [beq_eq_false_iff_ne]; exact b1
            have q2 : (b == 2) = false := by rw [beq_eq_false_iff_ne]; exact b2
            have q3 : (b == 3) = false := by rw [beq_eq_false_iff_ne]; exact b3
            have q4 : (b == 4) = false := by rw [beq_eq_false_iff_ne]; exact b4
            go_enter Tryd.func19, Tryd.ntmps19
            go_wp2_with fail
            refine V.out.mono ?_
            rintro e w1 ⟨rfl, rfl⟩
            go_wp2_with fail
            go_ret
            exact ⟨by rw [HR.out]; rfl, rfl⟩

set_option maxHeartbeats 2000000 in
theorem rweight (b day : Int) (w : World) :
    Calls Tryd.prog 20 #[.int .i64 b, .int .i64 day] w fun e w' => e = .returned (.int .i64 (wtI b day)) ∧ w = w' := by
  have V := rvalid day w
  cases hv : vdB day
  · have HR : Hid (wtI b day = 0) := Lib.hid (by unfold wtI; rw [hv]; rfl)
    rw [hv] at V
    have V := Lib.hid V
    clear hv
    go_enter Tryd.func20, Tryd.ntmps20
    go_wp2_with fail
    refine V.out.mono ?_
    rintro e w1 ⟨rfl, rfl⟩
    go_wp2_with fail
    go_ret
    exact ⟨by rw [HR.out]; rfl, rfl⟩
  · have HR : wtI b day = if b = 3 then acI (cY day) else if b = 4 then 4453 * thI day (day + 1) else csI b := by unfold wtI; rw [hv]; rfl
    have bd := (vd_iff day).1 hv
    obtain ⟨d0, d1⟩ := bd
    have C := rcivil day _ _ _ (civ_c hv) w
    have TH := rthirty day (day + 1) w
    obtain ⟨t0, t1⟩ := thI_bd day (day + 1)
    obtain ⟨T, hT⟩ : ∃ T, thI day (day + 1) = T := ⟨_, rfl⟩
    obtain ⟨Y, hY⟩ : ∃ T, cY day = T := ⟨_, rfl⟩
    obtain ⟨M, hM⟩ : ∃ T, cM day = T := ⟨_, rfl⟩
    obtain ⟨D, hD⟩ : ∃ T, cD day = T := ⟨_, rfl⟩
    rw [hT] at HR TH t0 t1
    rw [hY] at HR
    rw [hY, hM, hD] at C
    have GL := rleap Y w
    rw [hv] at V
    have V := Lib.hid V; have C := Lib.hid C; have TH := Lib.hid TH
    clear hv hT hY hM hD
    by_cases b3 : b = 3
    · subst b3
      rw [if_pos rfl] at HR
      unfold acI at HR
      cases hl : leapB Y
      all_goals
        rw [hl] at HR GL
        have HR := Lib.hid HR
        have GL := Lib.hid GL
        clear hl
        go_enter Tryd.func20, Tryd.ntmps20
        go_wp2_with fail
        refine V.out.mono ?_
        rintro e w1 ⟨rfl, rfl⟩
        go_wp2_with fail
        refine C.out.mono ?_
        rintro e w1 ⟨rfl, rfl⟩
        go_wp2_with fail
        refine GL.out.mono ?_
        rintro e w1 ⟨rfl, rfl⟩
        go_wp2_with fail
        go_ret
        exact ⟨by rw [HR.out]; rfl, rfl⟩
    · rw [if_neg b3] at HR
      by_cases b4 : b = 4
      · subst b4
        rw [if_pos rfl] at HR
        have HR := Lib.hid HR
        clear GL b3
        go_enter Tryd.func20, Tryd.ntmps20
        go_wp2_with fail
        refine V.out.mono ?_
        rintro e w1 ⟨rfl, rfl⟩
        go_wp2_with fail
        refine TH.out.mono ?_
        rintro e w1 ⟨rfl, rfl⟩
        go_wp2_with fail
        go_ret
        exact ⟨by rw [HR.out]; rfl, rfl⟩
      · rw [if_neg b4] at HR
        unfold csI at HR
        clear GL
        by_cases b1 : b = 1
        · subst b1
          rw [if_pos rfl] at HR
          have HR := Lib.hid HR
          clear b3 b4
          go_enter Tryd.func20, Tryd.ntmps20
          go_wp2_with fail
          refine V.out.mono ?_
          rintro e w1 ⟨rfl, rfl⟩
          go_wp2_with fail
          go_ret
          exact ⟨by rw [HR.out]; rfl, rfl⟩
        · rw [if_neg b1] at HR
          by_cases b2 : b = 2
          · subst b2
            rw [if_pos rfl] at HR
            have HR := Lib.hid HR
            clear b3 b4 b1
            go_enter Tryd.func20, Tryd.ntmps20
            go_wp2_with fail
            refine V.out.mono ?_
            rintro e w1 ⟨rfl, rfl⟩
            go_wp2_with fail
            go_ret
            exact ⟨by rw [HR.out]; rfl, rfl⟩
          · rw [if_neg b2] at HR
            have HR := Lib.hid HR
            have q1 : (b == 1) = false := by rw [beq_eq_false_iff_ne]; exact b1
            have q2 : (b == 2) = false := by rw [beq_eq_false_iff_ne]; exact b2
            have q3 : (b == 3) = false := by rw [beq_eq_false_iff_ne]; exact b3
            have q4 : (b == 4) = false := by rw [beq_eq_false_iff_ne]; exact b4
            go_enter Tryd.func20, Tryd.ntmps20
            go_wp2_with fail
            refine V.out.mono ?_
            rintro e w1 ⟨rfl, rfl⟩
            go_wp2_with fail
            go_ret
            exact ⟨by rw [HR.out]; rfl, rfl⟩
end Go.Proofs.YtnhealjngkhinaaDoor
