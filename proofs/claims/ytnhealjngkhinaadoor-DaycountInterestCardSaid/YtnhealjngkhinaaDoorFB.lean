/-
  Contracts of package daycount: sums and interest; the program's and the document's own (gen_fb.py writes this text).
-/
import Derived.Test.YtnhealjngkhinaaDoorFA
import Derived.Test.YtnhealjngkhinaaDoorRefM
namespace Go.Proofs.YtnhealjngkhinaaDoor
open Go Go.RowKit Go.Lib WM

def spB (f t : Int) : Bool := decide (vdB f = true ∧ vdB t = true ∧ f ≤ t)
theorem sp_iff (f t : Int) : spB f t = true ↔ (vdB f = true ∧ vdB t = true ∧ f ≤ t) := by simp [spB]
theorem sp_not {f t : Int} (h : ¬ (vdB f = true ∧ vdB t = true ∧ f ≤ t)) : spB f t = false := by rw [Bool.eq_false_iff, ne_eq, sp_iff]; exact h
theorem mspan (f t : Int) (w : World) : Calls Tryd.prog 50 #[.int .i64 f, .int .i64 t] w fun e w' => e = .returned (.bool (spB f t)) ∧ w = w' := by
  have V1 := mvalid f w
  have V2 := mvalid t w
  cases hf : vdB f
  · have HR := Lib.hid (sp_not (f := f) (t := t) (by rw [hf]; rintro ⟨h, _⟩; cases h))
    rw [hf] at V1
    have V1 := Lib.hid V1; have V2 := Lib.hid V2
    clear hf
    go_enter Tryd.func50, Tryd.ntmps50
    go_wp2_with fail
    refine V1.out.mono ?_
    rintro e w1 ⟨rfl, rfl⟩
    go_wp2_with fail
    go_ret
    exact ⟨by rw [HR.out]; rfl, rfl⟩
  · cases ht : vdB t
    · have HR := Lib.hid (sp_not (f := f) (t := t) (by rw [ht]; rintro ⟨_, h, _⟩; cases h))
      rw [hf] at V1; rw [ht] at V2
      have V1 := Lib.hid V1; have V2 := Lib.hid V2
      clear hf ht
      go_enter Tryd.func50, Tryd.ntmps50
      go_wp2_with fail
      refine V1.out.mono ?_
      rintro e w1 ⟨rfl, rfl⟩
      go_wp2_with fail
      refine V2.out.mono ?_
      rintro e w1 ⟨rfl, rfl⟩
      go_wp2_with fail
      go_ret
      exact ⟨by rw [HR.out]; rfl, rfl⟩
    · by_cases hle : f ≤ t
      · have HR := Lib.hid ((sp_iff f t).2 ⟨hf, ht, hle⟩)
        rw [hf] at V1; rw [ht] at V2
        have V1 := Lib.hid V1; have V2 := Lib.hid V2
        clear hf ht
        go_enter Tryd.func50, Tryd.ntmps50
        go_wp2_with fail
        refine V1.out.mono ?_
        rintro e w1 ⟨rfl, rfl⟩
        go_wp2_with fail
        refine V2.out.mono ?_
        rintro e w1 ⟨rfl, rfl⟩
        go_wp2_with fail
        go_ret
        exact ⟨by rw [HR.out]; rfl, rfl⟩
      · have HR := Lib.hid (sp_not (f := f) (t := t) (by rintro ⟨_, _, h⟩; exact hle h))
        have hd : decide (f ≤ t) = false := by simpa using hle
        rw [hf] at V1; rw [ht] at V2
        have V1 := Lib.hid V1; have V2 := Lib.hid V2
        clear hf ht
        go_enter Tryd.func50, Tryd.ntmps50
        go_wp2_with fail
        refine V1.out.mono ?_
        rintro e w1 ⟨rfl, rfl⟩
        go_wp2_with fail
        refine V2.out.mono ?_
        rintro e w1 ⟨rfl, rfl⟩
        go_wp2_with fail
        go_ret
        exact ⟨by rw [HR.out]; rfl, rfl⟩

theorem new_day {y : Int} (h0 : 2000 ≤ y) (h1 : y ≤ 2199) : dayV y 1 1 = ny y ∧ dayE y 1 1 = 0 := by
  have l := len_bd y 1 (by omega) (by omega)
  obtain ⟨a, b⟩ := date_yes y 1 1 ((date_iff y 1 1).2 ⟨h0, h1, by omega, by omega⟩)
  rw [cum_one] at a
  exact ⟨by omega, b⟩
set_option maxHeartbeats 1000000 in
theorem melapsed {day : Int} (h : vdB day = true) (w : World) (hL : Ln w) :
    Calls Tryd.prog 51 #[.int .i64 day] w fun e w' => e = .returned (.int .i64 (elI day)) ∧ w = w' := by
  have C := mcivil day _ _ _ (civ_c h) w hL
  have HR : elI day = cY day * 1603080 + (day - ny (cY day)) * acI (cY day) := rfl
  obtain ⟨y0, y1, m0, m1, d0, d1, n0, n1⟩ := in_year h
  have lpb := lp_01 (cY day)
  have DY := mday (cY day) 1 1 w hL
  rw [(new_day y0 y1).1, (new_day y0 y1).2] at DY
  have WT := mweight 3 day w hL
  rw [show wtI 3 day = acI (cY day) by unfold wtI; rw [h]; rfl] at WT
  have bd := (vd_iff day).1 h
  obtain ⟨d2, d3⟩ := bd
  have ab : acI (cY day) = 4380 ∨ acI (cY day) = 4392 := by rcases acI_lp (cY day) with ⟨_, q⟩ | ⟨_, q⟩ <;> omega
  obtain ⟨Y, hY⟩ : ∃ Y, cY day = Y := ⟨_, rfl⟩
  rw [hY] at C HR y0 y1 n0 n1 lpb DY WT ab
  obtain ⟨M, hM⟩ : ∃ Y, cM day = Y := ⟨_, rfl⟩
  obtain ⟨D, hD⟩ : ∃ Y, cD day = Y := ⟨_, rfl⟩
  rw [hM, hD] at C
  obtain ⟨A, hA⟩ : ∃ Q, acI Y = Q := ⟨_, rfl⟩
  rw [hA] at HR WT ab
  obtain ⟨N, hN⟩ : ∃ N, ny Y = N := ⟨_, rfl⟩
  rw [hN] at HR n0 n1 DY
  obtain ⟨l0, l1⟩ := lpb
  have r1 : day - N ≤ 366 := by omega
  have C := Lib.hid C; have DY := Lib.hid DY; have WT := Lib.hid WT
  clear hY hM hD hA hN h n1 l0 l1 m0 m1 d0 d1
  rcases ab with rfl | rfl
  all_goals
    have HR := Lib.hid HR
    go_enter Tryd.func51, Tryd.ntmps51
    go_wp2_with fail
    refine C.out.mono ?_
    rintro e w1 ⟨rfl, rfl⟩
    go_wp2_with fail
    refine DY.out.mono ?_
    rintro e w1 ⟨rfl, rfl⟩
    go_wp2_with fail
    refine WT.out.mono ?_
    rintro e w1 ⟨rfl, rfl⟩
    go_wp2_with fail
    go_ret
    exact ⟨by rw [HR.out]; rfl, rfl⟩

set_option maxHeartbeats 1000000 in
theorem msum (b f t : Int) (w : World) (hL : Ln w) :
    Calls Tryd.prog 25 #[.int .i64 b, .int .i64 f, .int .i64 t] w fun e w' => e = .returned (.int .i64 (smI b f t)) ∧ w = w' := by
  have SP := mspan f t w
  cases hs : spB f t
  · have HR : Hid (smI b f t = 0) := Lib.hid (by
      unfold smI; rw [if_neg]; intro h; rw [(sp_iff f t).2 h] at hs; cases hs)
    rw [hs] at SP
    have SP := Lib.hid SP
    clear hs
    go_enter Tryd.func25, Tryd.ntmps25
    go_wp2_with fail
    refine SP.out.mono ?_
    rintro e w1 ⟨rfl, rfl⟩
    go_wp2_with fail
    go_ret
    exact ⟨by rw [HR.out]; rfl, rfl⟩
  · obtain ⟨hf, ht, hle⟩ := (sp_iff f t).1 hs
    have HR := smI_yes (b := b) hf ht hle
    rw [hs] at SP
    have SP := Lib.hid SP
    obtain ⟨f0, f1⟩ := (vd_iff f).1 hf
    obtain ⟨t0, t1⟩ := (vd_iff t).1 ht
    by_cases b3 : b = 3
    · subst b3
      rw [if_pos rfl] at HR
      have C1 := melapsed hf w hL
      have C2 := melapsed ht w hL
      obtain ⟨x0, x1⟩ := elI_bd hf
      obtain ⟨z0, z1⟩ := elI_bd ht
      obtain ⟨X, hX⟩ : ∃ Y, elI f = Y := ⟨_, rfl⟩
      obtain ⟨Z, hZ⟩ : ∃ Y, elI t = Y := ⟨_, rfl⟩
      rw [hX] at C1 x0 x1; rw [hZ] at C2 z0 z1; rw [hX, hZ] at HR
      have HR := Lib.hid HR; have C1 := Lib.hid C1; have C2 := Lib.hid C2
      clear hs hf ht hX hZ
      go_enter Tryd.func25, Tryd.ntmps25
      go_wp2_with fail
      refine SP.out.mono ?_
      rintro e w1 ⟨rfl, rfl⟩
      go_wp2_with fail
      refine C2.out.mono ?_
      rintro e w1 ⟨rfl, rfl⟩
      go_wp2_with fail
      refine C1.out.mono ?_
      rintro e w1 ⟨rfl, rfl⟩
      go_wp2_with fail
      go_ret
      exact ⟨by rw [HR.out]; rfl, rfl⟩
    · rw [if_neg b3] at HR
      by_cases b4 : b = 4
      · subst b4
        rw [if_pos rfl] at HR
        have C1 := mthirty f t w hL
        obtain ⟨x0, x1⟩ := thI_bd f t
        obtain ⟨X, hX⟩ : ∃ Y, thI f t = Y := ⟨_, rfl⟩
        rw [hX] at C1 x0 x1 HR
        rw [Int.mul_comm] at HR
        have HR := Lib.hid HR; have C1 := Lib.hid C1
        clear hs hf ht hX b3
        go_enter Tryd.func25, Tryd.ntmps25
        go_wp2_with fail
        refine SP.out.mono ?_
        rintro e w1 ⟨rfl, rfl⟩
        go_wp2_with fail
        refine C1.out.mono ?_
        rintro e w1 ⟨rfl, rfl⟩
        go_wp2_with fail
        go_ret
        exact ⟨by rw [HR.out]; rfl, rfl⟩
      · rw [if_neg b4] at HR
        have C1 := mweight b f w hL
        rw [show wtI b f = csI b by unfold wtI; rw [hf, if_neg b3, if_neg b4]; rfl] at C1
        have p : -400000000 ≤ (t - f) * csI b ∧ (t - f) * csI b ≤ 400000000 := by
          rcases csI_bd b with q | q | q <;> rw [q] <;> omega
        obtain ⟨X, hX⟩ : ∃ Y, csI b = Y := ⟨_, rfl⟩
        rw [hX] at C1 HR p
        obtain ⟨p0, p1⟩ := p
        have HR := Lib.hid HR; have C1 := Lib.hid C1
        have q3 : (b == 3) = false := by rw [beq_eq_false_iff_ne]; exact b3
        have q4 : (b == 4) = false := by rw [beq_eq_false_iff_ne]; exact b4
        clear hs hf ht hX
        go_enter Tryd.func25, Tryd.ntmps25
        go_wp2_with fail
        refine SP.out.mono ?_
        rintro e w1 ⟨rfl, rfl⟩
        go_wp2_with fail
        refine C1.out.mono ?_
        rintro e w1 ⟨rfl, rfl⟩
        go_wp2_with fail
        go_ret
        exact ⟨by rw [HR.out]; rfl, rfl⟩

/-- The document adds the weights of the days up to d. -/
def AtDay (b f t d n : Int) : Prop := f ≤ d ∧ d ≤ t ∧ n = smI b f d
set_option maxHeartbeats 1000000 in
theorem rsum (b f t : Int) (w : World) :
    Calls Tryd.prog 26 #[.int .i64 b, .int .i64 f, .int .i64 t] w fun e w' => e = .returned (.int .i64 (smI b f t)) ∧ w = w' := by
  have V1 := rvalid f w
  have V2 := rvalid t w
  cases hf : vdB f
  · have HR := Lib.hid (smI_no (b := b) (f := f) (t := t) (Or.inl hf))
    rw [hf] at V1
    have V1 := Lib.hid V1; have V2 := Lib.hid V2
    clear hf
    go_enter Tryd.func26, Tryd.ntmps26
    go_wp2_with fail
    refine V1.out.mono ?_
    rintro e w1 ⟨rfl, rfl⟩
    go_wp2_with fail
    go_ret
    exact ⟨by rw [HR.out]; rfl, rfl⟩
  · cases ht : vdB t
    · have HR := Lib.hid (smI_no (b := b) (f := f) (t := t) (Or.inr (Or.inl ht)))
      rw [hf] at V1; rw [ht] at V2
      have V1 := Lib.hid V1; have V2 := Lib.hid V2
      clear hf ht
      go_enter Tryd.func26, Tryd.ntmps26
      go_wp2_with fail
      refine V1.out.mono ?_
      rintro e w1 ⟨rfl, rfl⟩
      go_wp2_with fail
      refine V2.out.mono ?_
      rintro e w1 ⟨rfl, rfl⟩
      go_wp2_with fail
      go_ret
      exact ⟨by rw [HR.out]; rfl, rfl⟩
    · obtain ⟨f0, f1⟩ := (vd_iff f).1 hf
      obtain ⟨t0, t1⟩ := (vd_iff t).1 ht
      rw [hf] at V1; rw [ht] at V2
      have V1 := Lib.hid V1; have V2 := Lib.hid V2
      by_cases hle : f ≤ t
      · have HS : Hid (AtDay b f t f 0) := Lib.hid ⟨Int.le_refl f, hle, (smI_self b f).symm⟩
        have WT := Lib.hid (fun d => rweight b d w)
        have HF := Lib.hid hf; have HT := Lib.hid ht
        clear hf ht
        go_enter Tryd.func26, Tryd.ntmps26
        go_wp2_with fail
        refine V1.out.mono ?_
        rintro e w1 ⟨rfl, rfl⟩
        go_wp2_with fail
        refine V2.out.mono ?_
        rintro e w1 ⟨rfl, rfl⟩
        go_wp2_with fail
        go_loop [7, 8] (fun n d => ∃ D N : Int, d = .int .i64 D ∧ n = .int .i64 N ∧ AtDay b f t D N) (fun _ d => (t - RowKit.intOf d).toNat)
        case atStart => exact ⟨f, 0, rfl, rfl, HS.out⟩
        case round =>
          obtain ⟨D, N, rfl, rfl, hA⟩ := hrel
          obtain ⟨k1, k2, e1⟩ := hA
          obtain ⟨s0, s1⟩ := smI_bd b f D
          rw [← e1] at s0 s1
          by_cases hk : D < t
          · have st := smI_step (b := b) (f := f) (d := D) HF.out (by rw [vd_iff]; omega) k1
            obtain ⟨u0, u1⟩ := wtI_bd b D
            have C := WT.out D
            obtain ⟨U, hU⟩ : ∃ U, wtI b D = U := ⟨_, rfl⟩
            rw [hU] at st u0 u1 C
            have HA : Hid (AtDay b f t (D + 1) (N + U)) := Lib.hid ⟨by omega, by omega, by rw [st, e1]⟩
            have C := Lib.hid C
            clear hU st e1
            go_wp2_with fail
            refine C.out.mono ?_
            rintro e w1 ⟨rfl, rfl⟩
            go_wp2_with fail
            go_round
            case rel => exact ⟨D + 1, N + U, rfl, rfl, HA.out⟩
            case measure => simp [RowKit.intOf]; omega
          · have hDt : D = t := by omega
            subst hDt
            have HE := Lib.hid e1
            clear e1
            go_wp2_with fail
            go_ret
            exact ⟨by rw [← HE.out]; rfl, rfl⟩
      · have HR := Lib.hid (smI_no (b := b) (f := f) (t := t) (Or.inr (Or.inr (by omega))))
        clear hf ht
        have hlt : t < f := by omega
        go_enter Tryd.func26, Tryd.ntmps26
        go_wp2_with fail
        refine V1.out.mono ?_
        rintro e w1 ⟨rfl, rfl⟩
        go_wp2_with fail
        refine V2.out.mono ?_
        rintro e w1 ⟨rfl, rfl⟩
        go_wp2_with fail
        go_loop [7, 8] (fun n d => n = .int .i64 0 ∧ d = .int .i64 f) (fun _ _ => 0)
        case atStart => exact ⟨rfl, rfl⟩
        case round =>
          obtain ⟨rfl, rfl⟩ := hrel
          go_wp2_with fail
          go_ret
          exact ⟨by rw [HR.out]; rfl, rfl⟩
end Go.Proofs.YtnhealjngkhinaaDoor
