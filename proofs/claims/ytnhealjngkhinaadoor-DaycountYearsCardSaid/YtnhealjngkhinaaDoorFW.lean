/-
  The walks of the laws DaycountWeights, DaycountThirty, DaycountSums, DaycountAdds, DaycountYears (gen_fw.py writes this text).
-/
import Derived.Test.YtnhealjngkhinaaDoorFN
namespace Go.Proofs.YtnhealjngkhinaaDoor
open Go Go.RowKit Go.Lib WM


set_option maxRecDepth 100000 in
set_option maxHeartbeats 4000000 in
theorem wDaycountWeights (b d : Int) (w : World) (hL : Ln w) :
    Calls Tryd.prog 4 #[.int .i64 b, .int .i64 d] w fun e w' => e = .returned (.bool true) ∧ Below w.heap.size w w' := by
  have C1 := mbasis b w
  have C2 := rbasis b w
  have C3 := mweight b d w hL
  have C4 := rweight b d w
  obtain ⟨B, hB⟩ : ∃ B, bsB b = B := ⟨_, rfl⟩
  obtain ⟨N, hN⟩ : ∃ N, wtI b d = N := ⟨_, rfl⟩
  rw [hB] at C1 C2
  rw [hN] at C3 C4
  have C1 := Lib.hid C1; have C2 := Lib.hid C2; have C3 := Lib.hid C3; have C4 := Lib.hid C4
  clear hB hN
  go_enter Tryd.func4, Tryd.ntmps4
  go_wp2_with fail
  refine (C1.out).mono ?_
  rintro e w1 ⟨rfl, rfl⟩
  go_wp2_with fail
  refine (C2.out).mono ?_
  rintro e w1 ⟨rfl, rfl⟩
  go_wp2_with fail
  refine (C3.out).mono ?_
  rintro e w1 ⟨rfl, rfl⟩
  go_wp2_with fail
  refine (C4.out).mono ?_
  rintro e w1 ⟨rfl, rfl⟩
  go_wp2_with fail
  refine (live_any _ hL).mono ?_
  rintro e w9 ⟨rfl, q9⟩
  go_wp2_with fail
  go_ret
  exact ⟨rfl, q9⟩

set_option maxRecDepth 100000 in
set_option maxHeartbeats 4000000 in
theorem wDaycountThirty (f t : Int) (w : World) (hL : Ln w) :
    Calls Tryd.prog 5 #[.int .i64 f, .int .i64 t] w fun e w' => e = .returned (.bool true) ∧ Below w.heap.size w w' := by
  have C1 := mthirty f t w hL
  have C2 := rthirty f t w
  have C3 := mthirty t f w hL
  rw [thI_opp f t] at C3
  obtain ⟨b0, b1⟩ := thI_bd f t
  obtain ⟨N, hN⟩ : ∃ N, thI f t = N := ⟨_, rfl⟩
  rw [hN] at C1 C2 C3 b0 b1
  have C1 := Lib.hid C1; have C2 := Lib.hid C2; have C3 := Lib.hid C3
  clear hN
  go_enter Tryd.func5, Tryd.ntmps5
  go_wp2_with fail
  refine (C1.out).mono ?_
  rintro e w1 ⟨rfl, rfl⟩
  go_wp2_with fail
  refine (C2.out).mono ?_
  rintro e w1 ⟨rfl, rfl⟩
  go_wp2_with fail
  refine (C3.out).mono ?_
  rintro e w1 ⟨rfl, rfl⟩
  go_wp2_with fail
  refine (live_any _ hL).mono ?_
  rintro e w9 ⟨rfl, q9⟩
  go_wp2_with fail
  go_ret
  exact ⟨rfl, q9⟩

set_option maxRecDepth 100000 in
set_option maxHeartbeats 4000000 in
theorem wDaycountSums (b f t : Int) (w : World) (hL : Ln w) :
    Calls Tryd.prog 6 #[.int .i64 b, .int .i64 f, .int .i64 t] w fun e w' => e = .returned (.bool true) ∧ Below w.heap.size w w' := by
  have NB := near_any f t w
  have C1 := msum b f t w hL
  have C2 := rsum b f t w
  obtain ⟨N, hN⟩ : ∃ N, smI b f t = N := ⟨_, rfl⟩
  rw [hN] at C1 C2
  cases hn : nearB f t
  all_goals
    rw [hn] at NB
    have NB := Lib.hid NB; have C1 := Lib.hid C1; have C2 := Lib.hid C2
    clear hN hn
  · skip
    go_enter Tryd.func6, Tryd.ntmps6
    go_wp2_with fail
    refine (NB.out).mono ?_
    rintro e w1 ⟨rfl, rfl⟩
    go_wp2_with fail
    refine (live_any _ hL).mono ?_
    rintro e w9 ⟨rfl, q9⟩
    go_wp2_with fail
    go_ret
    exact ⟨rfl, q9⟩
  · skip
    go_enter Tryd.func6, Tryd.ntmps6
    go_wp2_with fail
    refine (NB.out).mono ?_
    rintro e w1 ⟨rfl, rfl⟩
    go_wp2_with fail
    refine (C1.out).mono ?_
    rintro e w1 ⟨rfl, rfl⟩
    go_wp2_with fail
    refine (C2.out).mono ?_
    rintro e w1 ⟨rfl, rfl⟩
    go_wp2_with fail
    refine (live_any _ hL).mono ?_
    rintro e w9 ⟨rfl, q9⟩
    go_wp2_with fail
    go_ret
    exact ⟨rfl, q9⟩

set_option maxRecDepth 100000 in
set_option maxHeartbeats 4000000 in
theorem wDaycountAdds (b f m t : Int) (w : World) (hL : Ln w) :
    Calls Tryd.prog 7 #[.int .i64 b, .int .i64 f, .int .i64 m, .int .i64 t] w fun e w' => e = .returned (.bool true) ∧ Below w.heap.size w w' := by
  have VF := rvalid f w
  have VT := rvalid t w
  cases hf : vdB f
  · rw [hf] at VF
    have VF := Lib.hid VF; have VT := Lib.hid VT
    clear hf
    go_enter Tryd.func7, Tryd.ntmps7
    go_wp2_with fail
    refine (VF.out).mono ?_
    rintro e w1 ⟨rfl, rfl⟩
    go_wp2_with fail
    refine (live_any _ hL).mono ?_
    rintro e w9 ⟨rfl, q9⟩
    go_wp2_with fail
    go_ret
    exact ⟨rfl, q9⟩
  rw [hf] at VF
  have VF := Lib.hid VF
  cases ht : vdB t
  · rw [ht] at VT
    have VT := Lib.hid VT
    clear hf ht
    go_enter Tryd.func7, Tryd.ntmps7
    go_wp2_with fail
    refine (VF.out).mono ?_
    rintro e w1 ⟨rfl, rfl⟩
    go_wp2_with fail
    refine (VT.out).mono ?_
    rintro e w1 ⟨rfl, rfl⟩
    go_wp2_with fail
    refine (live_any _ hL).mono ?_
    rintro e w9 ⟨rfl, q9⟩
    go_wp2_with fail
    go_ret
    exact ⟨rfl, q9⟩
  rw [ht] at VT
  have VT := Lib.hid VT
  obtain ⟨f0, f1⟩ := (vd_iff f).1 hf
  obtain ⟨t0, t1⟩ := (vd_iff t).1 ht
  by_cases hfm : m < f
  · clear hf ht
    go_enter Tryd.func7, Tryd.ntmps7
    go_wp2_with fail
    refine (VF.out).mono ?_
    rintro e w1 ⟨rfl, rfl⟩
    go_wp2_with fail
    refine (VT.out).mono ?_
    rintro e w1 ⟨rfl, rfl⟩
    go_wp2_with fail
    refine (live_any _ hL).mono ?_
    rintro e w9 ⟨rfl, q9⟩
    go_wp2_with fail
    go_ret
    exact ⟨rfl, q9⟩
  by_cases hmt : t < m
  · clear hf ht
    go_enter Tryd.func7, Tryd.ntmps7
    go_wp2_with fail
    refine (VF.out).mono ?_
    rintro e w1 ⟨rfl, rfl⟩
    go_wp2_with fail
    refine (VT.out).mono ?_
    rintro e w1 ⟨rfl, rfl⟩
    go_wp2_with fail
    refine (live_any _ hL).mono ?_
    rintro e w9 ⟨rfl, q9⟩
    go_wp2_with fail
    go_ret
    exact ⟨rfl, q9⟩
  have h1 : f ≤ m := by omega
  have h2 : m ≤ t := by omega
  clear hfm hmt
  have S1 := msum b f t w hL
  have S2 := msum b f m w hL
  have S3 := msum b m t w hL
  have ad := smI_add (b := b) hf ht h1 h2
  have T1 := mthirty f t w hL
  obtain ⟨z0, z1⟩ := thI_bd f t
  have hTH : b = 4 → smI b f t = 4453 * thI f t := by
    rintro rfl
    rw [smI_yes hf ht (by omega), if_neg (by omega), if_pos rfl]
  have HST : Hid (∀ d, f ≤ d → d < t → smI b d t - wtI b d = smI b (d + 1) t) := Lib.hid (fun d k1 k2 => smI_front (by rw [vd_iff] at *; omega) ht k2)
  have HEN : Hid (smI b t t = 0) := Lib.hid (smI_self b t)
  obtain ⟨s0, s1⟩ := smI_bd b f m
  obtain ⟨u0, u1⟩ := smI_bd b m t
  have HS0 : Hid (∃ N, smI b f t = N) := Lib.hid ⟨_, rfl⟩
  obtain ⟨X, hX⟩ : ∃ X, smI b f m = X := ⟨_, rfl⟩
  obtain ⟨Y, hY⟩ : ∃ X, smI b m t = X := ⟨_, rfl⟩
  obtain ⟨Z, hZ⟩ : ∃ X, thI f t = X := ⟨_, rfl⟩
  rw [hX] at S2 s0 s1 ad; rw [hY] at S3 u0 u1 ad; rw [hZ] at T1 z0 z1 hTH
  rw [ad] at S1 hTH
  have HAT : Hid (smI b f t = X + Y) := Lib.hid ad
  have WT := Lib.hid (fun d => mweight b d w hL)
  have S1 := Lib.hid S1; have S2 := Lib.hid S2; have S3 := Lib.hid S3; have T1 := Lib.hid T1
  clear hX hY hZ ad hf ht HS0
  have main : ∀ (hb : (b = 4 ∧ X + Y = 4453 * Z) ∨ ((b == 4) = false)), Calls Tryd.prog 7 #[.int .i64 b, .int .i64 f, .int .i64 m, .int .i64 t] w fun e w' => e = .returned (.bool true) ∧ Below w.heap.size w w' := by
    intro hb
    clear hTH
    by_cases h100 : t - f ≤ 100
    · rcases hb with ⟨rfl, hXY⟩ | hb
      · skip
        go_enter Tryd.func7, Tryd.ntmps7
        go_wp2_with fail
        refine (VF.out).mono ?_
        rintro e w1 ⟨rfl, rfl⟩
        go_wp2_with fail
        refine (VT.out).mono ?_
        rintro e w1 ⟨rfl, rfl⟩
        go_wp2_with fail
        refine (S1.out).mono ?_
        rintro e w1 ⟨rfl, rfl⟩
        go_wp2_with fail
        refine (S2.out).mono ?_
        rintro e w1 ⟨rfl, rfl⟩
        go_wp2_with fail
        refine (S3.out).mono ?_
        rintro e w1 ⟨rfl, rfl⟩
        go_wp2_with fail
        refine (T1.out).mono ?_
        rintro e w1 ⟨rfl, rfl⟩
        go_wp2_with fail
        go_loop [9, 10] (fun n d => ∃ D N : Int, d = .int .i64 D ∧ n = .int .i64 N ∧ f ≤ D ∧ D ≤ t ∧ N = smI 4 D t) (fun _ d => (t - RowKit.intOf d).toNat)
        case atStart => exact ⟨f, 4453 * Z, rfl, rfl, Int.le_refl f, by omega, by rw [← hXY]; exact HAT.out.symm⟩
        case round =>
          obtain ⟨D, N, rfl, rfl, k1, k2, e1⟩ := hrel
          obtain ⟨v0, v1⟩ := smI_bd 4 D t
          rw [← e1] at v0 v1
          by_cases hk : D < t
          · have st := HST.out D k1 hk
            obtain ⟨y0, y1⟩ := wtI_bd 4 D
            have C := WT.out D
            obtain ⟨U, hU⟩ : ∃ U, wtI 4 D = U := ⟨_, rfl⟩
            rw [hU] at st y0 y1 C
            have HA : Hid (N - U = smI 4 (D + 1) t) := Lib.hid (by rw [← st, e1])
            have C := Lib.hid C
            clear hU st e1
            go_wp2_with fail
            refine C.out.mono ?_
            rintro e w1 ⟨rfl, rfl⟩
            go_wp2_with fail
            go_round
            case rel => exact ⟨D + 1, N - U, rfl, rfl, by omega, by omega, HA.out⟩
            case measure => simp [RowKit.intOf]; omega
          · have hDt : D = t := by omega
            subst hDt
            rw [HEN.out] at e1
            subst e1
            clear k2
            go_wp2_with fail
            refine (live_any _ hL).mono ?_
            rintro e w9 ⟨rfl, q9⟩
            go_wp2_with fail
            go_ret
            exact ⟨rfl, q9⟩
      · skip
        go_enter Tryd.func7, Tryd.ntmps7
        go_wp2_with fail
        refine (VF.out).mono ?_
        rintro e w1 ⟨rfl, rfl⟩
        go_wp2_with fail
        refine (VT.out).mono ?_
        rintro e w1 ⟨rfl, rfl⟩
        go_wp2_with fail
        refine (S1.out).mono ?_
        rintro e w1 ⟨rfl, rfl⟩
        go_wp2_with fail
        refine (S2.out).mono ?_
        rintro e w1 ⟨rfl, rfl⟩
        go_wp2_with fail
        refine (S3.out).mono ?_
        rintro e w1 ⟨rfl, rfl⟩
        go_wp2_with fail
        go_loop [9, 10] (fun n d => ∃ D N : Int, d = .int .i64 D ∧ n = .int .i64 N ∧ f ≤ D ∧ D ≤ t ∧ N = smI b D t) (fun _ d => (t - RowKit.intOf d).toNat)
        case atStart => exact ⟨f, X + Y, rfl, rfl, Int.le_refl f, by omega, HAT.out.symm⟩
        case round =>
          obtain ⟨D, N, rfl, rfl, k1, k2, e1⟩ := hrel
          obtain ⟨v0, v1⟩ := smI_bd b D t
          rw [← e1] at v0 v1
          by_cases hk : D < t
          · have st := HST.out D k1 hk
            obtain ⟨y0, y1⟩ := wtI_bd b D
            have C := WT.out D
            obtain ⟨U, hU⟩ : ∃ U, wtI b D = U := ⟨_, rfl⟩
            rw [hU] at st y0 y1 C
            have HA : Hid (N - U = smI b (D + 1) t) := Lib.hid (by rw [← st, e1])
            have C := Lib.hid C
            clear hU st e1
            go_wp2_with fail
            refine C.out.mono ?_
            rintro e w1 ⟨rfl, rfl⟩
            go_wp2_with fail
            go_round
            case rel => exact ⟨D + 1, N - U, rfl, rfl, by omega, by omega, HA.out⟩
            case measure => simp [RowKit.intOf]; omega
          · have hDt : D = t := by omega
            subst hDt
            rw [HEN.out] at e1
            subst e1
            clear k2
            go_wp2_with fail
            refine (live_any _ hL).mono ?_
            rintro e w9 ⟨rfl, q9⟩
            go_wp2_with fail
            go_ret
            exact ⟨rfl, q9⟩
    · have h100 : 100 < t - f := by omega
      rcases hb with ⟨rfl, hXY⟩ | hb
      · skip
        go_enter Tryd.func7, Tryd.ntmps7
        go_wp2_with fail
        refine (VF.out).mono ?_
        rintro e w1 ⟨rfl, rfl⟩
        go_wp2_with fail
        refine (VT.out).mono ?_
        rintro e w1 ⟨rfl, rfl⟩
        go_wp2_with fail
        refine (S1.out).mono ?_
        rintro e w1 ⟨rfl, rfl⟩
        go_wp2_with fail
        refine (S2.out).mono ?_
        rintro e w1 ⟨rfl, rfl⟩
        go_wp2_with fail
        refine (S3.out).mono ?_
        rintro e w1 ⟨rfl, rfl⟩
        go_wp2_with fail
        refine (T1.out).mono ?_
        rintro e w1 ⟨rfl, rfl⟩
        go_wp2_with fail
        refine (live_any _ hL).mono ?_
        rintro e w9 ⟨rfl, q9⟩
        go_wp2_with fail
        go_ret
        exact ⟨rfl, q9⟩
      · skip
        go_enter Tryd.func7, Tryd.ntmps7
        go_wp2_with fail
        refine (VF.out).mono ?_
        rintro e w1 ⟨rfl, rfl⟩
        go_wp2_with fail
        refine (VT.out).mono ?_
        rintro e w1 ⟨rfl, rfl⟩
        go_wp2_with fail
        refine (S1.out).mono ?_
        rintro e w1 ⟨rfl, rfl⟩
        go_wp2_with fail
        refine (S2.out).mono ?_
        rintro e w1 ⟨rfl, rfl⟩
        go_wp2_with fail
        refine (S3.out).mono ?_
        rintro e w1 ⟨rfl, rfl⟩
        go_wp2_with fail
        refine (live_any _ hL).mono ?_
        rintro e w9 ⟨rfl, q9⟩
        go_wp2_with fail
        go_ret
        exact ⟨rfl, q9⟩
  by_cases b4 : b = 4
  · exact main (Or.inl ⟨b4, hTH b4⟩)
  · exact main (Or.inr (by rw [beq_eq_false_iff_ne]; exact b4))

set_option maxRecDepth 100000 in
set_option maxHeartbeats 4000000 in
theorem wDaycountYears (y m d : Int) (w : World) (hL : Ln w) :
    Calls Tryd.prog 10 #[.int .i64 y, .int .i64 m, .int .i64 d] w fun e w' => e = .returned (.bool true) ∧ Below w.heap.size w w' := by
  have D1 := rday y m d w
  have D2 := Lib.hid (fun Y => rday Y m d w)
  cases h1 : dateB y m d
  · obtain ⟨e1, e2⟩ := date_no y m d h1
    rw [e1, e2] at D1
    have D1 := Lib.hid D1
    clear h1 e1 e2
    go_enter Tryd.func10, Tryd.ntmps10
    go_wp2_with fail
    refine (D1.out).mono ?_
    rintro e w1 ⟨rfl, rfl⟩
    go_wp2_with fail
    refine (D2.out _).mono ?_
    rintro e w1 ⟨rfl, rfl⟩
    go_wp2_with fail
    refine (live_any _ hL).mono ?_
    rintro e w9 ⟨rfl, q9⟩
    go_wp2_with fail
    go_ret
    exact ⟨rfl, q9⟩
  have yb := (date_iff y m d).1 h1
  obtain ⟨y0, y1, _, _⟩ := yb
  have D2 := rday (y + 1) m d w
  cases h2 : dateB (y + 1) m d
  · obtain ⟨e1, e2⟩ := date_no (y + 1) m d h2
    rw [e1, e2] at D2
    rw [(date_yes y m d h1).2] at D1
    have D1 := Lib.hid D1; have D2 := Lib.hid D2
    clear h1 h2 e1 e2
    go_enter Tryd.func10, Tryd.ntmps10
    go_wp2_with fail
    refine (D1.out).mono ?_
    rintro e w1 ⟨rfl, rfl⟩
    go_wp2_with fail
    refine (D2.out).mono ?_
    rintro e w1 ⟨rfl, rfl⟩
    go_wp2_with fail
    refine (live_any _ hL).mono ?_
    rintro e w9 ⟨rfl, q9⟩
    go_wp2_with fail
    go_ret
    exact ⟨rfl, q9⟩
  obtain ⟨F1, F2, F3⟩ := year_facts h1 h2
  rw [(date_yes y m d h1).2] at D1
  rw [(date_yes (y + 1) m d h2).2] at D2
  obtain ⟨F, hF⟩ : ∃ F, dayV y m d = F := ⟨_, rfl⟩
  obtain ⟨T, hT⟩ : ∃ F, dayV (y + 1) m d = F := ⟨_, rfl⟩
  rw [hF] at D1 F1 F2 F3
  rw [hT] at D2 F1 F2 F3
  have S2 := msum 2 F T w hL
  have S3 := msum 3 F T w hL
  have S4 := msum 4 F T w hL
  rw [F1] at S4
  obtain ⟨S, hS⟩ : ∃ S, smI 2 F T = S := ⟨_, rfl⟩
  rw [hS] at S2 F2
  have D1 := Lib.hid D1; have D2 := Lib.hid D2; have S2 := Lib.hid S2; have S4 := Lib.hid S4
  clear h1 h2 hF hT hS F1
  by_cases hm : m = 1
  · by_cases hd : d = 1
    · rw [F3 hm hd] at S3
      have S3 := Lib.hid S3
      clear F3
      subst hm hd
      go_enter Tryd.func10, Tryd.ntmps10
      go_wp2_with fail
      refine (D1.out).mono ?_
      rintro e w1 ⟨rfl, rfl⟩
      go_wp2_with fail
      refine (D2.out).mono ?_
      rintro e w1 ⟨rfl, rfl⟩
      go_wp2_with fail
      refine (S3.out).mono ?_
      rintro e w1 ⟨rfl, rfl⟩
      go_wp2_with fail
      refine (S4.out).mono ?_
      rintro e w1 ⟨rfl, rfl⟩
      go_wp2_with fail
      refine (S2.out).mono ?_
      rintro e w1 ⟨rfl, rfl⟩
      go_wp2_with fail
      refine (live_any _ hL).mono ?_
      rintro e w9 ⟨rfl, q9⟩
      go_wp2_with fail
      go_ret
      exact ⟨rfl, q9⟩
    · have qd : (d == 1) = false := by rw [beq_eq_false_iff_ne]; exact hd
      clear F3 S3
      subst hm
      go_enter Tryd.func10, Tryd.ntmps10
      go_wp2_with fail
      refine (D1.out).mono ?_
      rintro e w1 ⟨rfl, rfl⟩
      go_wp2_with fail
      refine (D2.out).mono ?_
      rintro e w1 ⟨rfl, rfl⟩
      go_wp2_with fail
      refine (S4.out).mono ?_
      rintro e w1 ⟨rfl, rfl⟩
      go_wp2_with fail
      refine (S2.out).mono ?_
      rintro e w1 ⟨rfl, rfl⟩
      go_wp2_with fail
      refine (live_any _ hL).mono ?_
      rintro e w9 ⟨rfl, q9⟩
      go_wp2_with fail
      go_ret
      exact ⟨rfl, q9⟩
  · have qm : (m == 1) = false := by rw [beq_eq_false_iff_ne]; exact hm
    clear F3 S3
    go_enter Tryd.func10, Tryd.ntmps10
    go_wp2_with fail
    refine (D1.out).mono ?_
    rintro e w1 ⟨rfl, rfl⟩
    go_wp2_with fail
    refine (D2.out).mono ?_
    rintro e w1 ⟨rfl, rfl⟩
    go_wp2_with fail
    refine (S4.out).mono ?_
    rintro e w1 ⟨rfl, rfl⟩
    go_wp2_with fail
    refine (S2.out).mono ?_
    rintro e w1 ⟨rfl, rfl⟩
    go_wp2_with fail
    refine (live_any _ hL).mono ?_
    rintro e w9 ⟨rfl, q9⟩
    go_wp2_with fail
    go_ret
    exact ⟨rfl, q9⟩
end Go.Proofs.YtnhealjngkhinaaDoor
