/-
  The walks of DateSteps and DateRoundTrips.
-/
import Derived.Test.YtipoccelkgijgaaDoorDJ
namespace Go.Proofs.YtipoccelkgijgaaDoor
open Go Go.RowKit Go.Lib WM

set_option maxRecDepth 100000 in
set_option maxHeartbeats 4000000 in
theorem steps_any (day : Int) (_ : I64 day) (w : World) (hL : Ln w) (ht : Tb w) :
    Calls Tryd.prog 7 #[.int .i64 day] w fun e w' => e = .returned (.bool true) ∧ Below w.heap.size w w' := by
  have V := mvalid day w
  by_cases c0 : day < 0
  · rw [show vdB day = false by unfold vdB; simp; omega] at V
    have V := Lib.hid V
    have n1 : (day == 73048) = false := by rw [beq_eq_false_iff_ne]; omega
    have n2 : ¬ day = 73048 := by omega
    go_enter Tryd.func7, Tryd.ntmps7
    go_wp2_with fail
    refine V.out.mono ?_
    rintro e w1 ⟨rfl, rfl⟩
    go_wp2_with fail
    refine (live_any _ hL ht).mono ?_
    rintro e w9 ⟨rfl, q9⟩
    go_wp2_with fail
    go_ret
    exact ⟨rfl, q9⟩
  by_cases c1 : 73048 ≤ day
  · by_cases c2 : day = 73048
    · subst c2
      rw [show vdB 73048 = true by decide] at V
      have V := Lib.hid V
      go_enter Tryd.func7, Tryd.ntmps7
      go_wp2_with fail
      refine V.out.mono ?_
      rintro e w1 ⟨rfl, rfl⟩
      go_wp2_with fail
      refine (live_any _ hL ht).mono ?_
      rintro e w9 ⟨rfl, q9⟩
      go_wp2_with fail
      go_ret
      exact ⟨rfl, q9⟩
    · rw [show vdB day = false by unfold vdB; simp; omega] at V
      have V := Lib.hid V
      have n1 : (day == 73048) = false := by rw [beq_eq_false_iff_ne]; exact c2
      go_enter Tryd.func7, Tryd.ntmps7
      go_wp2_with fail
      refine V.out.mono ?_
      rintro e w1 ⟨rfl, rfl⟩
      go_wp2_with fail
      refine (live_any _ hL ht).mono ?_
      rintro e w9 ⟨rfl, q9⟩
      go_wp2_with fail
      go_ret
      exact ⟨rfl, q9⟩
  have hv : vdB day = true := by unfold vdB; simp; omega
  have hv1 : vdB (day + 1) = true := by unfold vdB; simp; omega
  obtain ⟨y, m, d, hc⟩ := civ_ex day hv
  have y0 := hc.y0; have y1 := hc.y1; have m0 := hc.m0; have m1 := hc.m1; have d0 := hc.d0; have d1 := hc.d1
  have d31 : d ≤ 31 := by have := len_bd0 y m; omega
  have C0 := mcivil day y m d hc w hL
  have K0 := mweek day w
  have K1 := mweek (day + 1) w
  rw [hv] at K0; rw [hv1] at K1
  rw [if_pos rfl, show (day + 1 + 5) % 7 = ((day + 5) % 7 + 1) % 7 by omega] at K1
  rw [if_pos rfl] at K0
  have k0 : 0 ≤ (day + 5) % 7 := by omega
  have k1 : (day + 5) % 7 ≤ 6 := by omega
  obtain ⟨K, hK⟩ : ∃ K, (day + 5) % 7 = K := ⟨_, rfl⟩
  rw [hK] at K0 K1 k0 k1
  have E0 := mend day y m d hc w hL
  have K0 := Lib.hid K0; have K1 := Lib.hid K1; have C0 := Lib.hid C0
  clear hK hv hv1 V
  by_cases hl : d < lenI y m
  · have hn := next_in hc hl
    have C1 := Lib.hid (mcivil (day + 1) y m (d + 1) hn w hL)
    have E1 := mend (day + 1) y m (d + 1) hn w hL
    rw [show day + 1 + lenI y m - (d + 1) = day + lenI y m - d by omega] at E1
    have e1 : day < day + lenI y m - d := by omega
    obtain ⟨E, hE⟩ : ∃ E, day + lenI y m - d = E := ⟨_, rfl⟩
    rw [hE] at E0 E1 e1
    have ne1 : (E != day) = true := by rw [bne_iff_ne]; omega
    have ne2 : ¬ E = day := by omega
    have E0 := Lib.hid E0; have E1 := Lib.hid E1
    clear hE hn hc hl d1
    go_enter Tryd.func7, Tryd.ntmps7
    go_wp2_with fail
    refine C0.out.mono ?_
    rintro e w1 ⟨rfl, rfl⟩
    go_wp2_with fail
    refine C1.out.mono ?_
    rintro e w1 ⟨rfl, rfl⟩
    go_wp2_with fail
    refine K1.out.mono ?_
    rintro e w1 ⟨rfl, rfl⟩
    go_wp2_with fail
    refine K0.out.mono ?_
    rintro e w1 ⟨rfl, rfl⟩
    go_wp2_with fail
    refine E0.out.mono ?_
    rintro e w1 ⟨rfl, rfl⟩
    go_wp2_with fail
    refine E1.out.mono ?_
    rintro e w1 ⟨rfl, rfl⟩
    go_wp2_with fail
    refine E0.out.mono ?_
    rintro e w1 ⟨rfl, rfl⟩
    go_wp2_with fail
    refine (live_any _ hL ht).mono ?_
    rintro e w9 ⟨rfl, q9⟩
    go_wp2_with fail
    go_ret
    exact ⟨rfl, q9⟩
  · have hle : d = lenI y m := by omega
    rw [show day + lenI y m - d = day by omega] at E0
    have E0 := Lib.hid E0
    by_cases hm : m < 12
    · have C1 := Lib.hid (mcivil (day + 1) y (m + 1) 1 (next_month hc hle hm) w hL)
      have r1 : m % 12 = m := by omega
      have r2 : m / 12 = 0 := by omega
      clear hc hl d1 hle
      go_enter Tryd.func7, Tryd.ntmps7
      go_wp2_with fail
      refine C0.out.mono ?_
      rintro e w1 ⟨rfl, rfl⟩
      go_wp2_with fail
      refine C1.out.mono ?_
      rintro e w1 ⟨rfl, rfl⟩
      go_wp2_with fail
      refine K1.out.mono ?_
      rintro e w1 ⟨rfl, rfl⟩
      go_wp2_with fail
      refine K0.out.mono ?_
      rintro e w1 ⟨rfl, rfl⟩
      go_wp2_with fail
      refine E0.out.mono ?_
      rintro e w1 ⟨rfl, rfl⟩
      go_wp2_with fail
      refine (live_any _ hL ht).mono ?_
      rintro e w9 ⟨rfl, q9⟩
      go_wp2_with fail
      go_ret
      exact ⟨rfl, q9⟩
    · have hm12 : m = 12 := by omega
      have C1 := Lib.hid (mcivil (day + 1) (y + 1) 1 1 (next_year hc hle hm12 (by omega)) w hL)
      clear hc hl d1 hle
      subst hm12
      go_enter Tryd.func7, Tryd.ntmps7
      go_wp2_with fail
      refine C0.out.mono ?_
      rintro e w1 ⟨rfl, rfl⟩
      go_wp2_with fail
      refine C1.out.mono ?_
      rintro e w1 ⟨rfl, rfl⟩
      go_wp2_with fail
      refine K1.out.mono ?_
      rintro e w1 ⟨rfl, rfl⟩
      go_wp2_with fail
      refine K0.out.mono ?_
      rintro e w1 ⟨rfl, rfl⟩
      go_wp2_with fail
      refine E0.out.mono ?_
      rintro e w1 ⟨rfl, rfl⟩
      go_wp2_with fail
      refine (live_any _ hL ht).mono ?_
      rintro e w9 ⟨rfl, q9⟩
      go_wp2_with fail
      go_ret
      exact ⟨rfl, q9⟩

theorem am_ok (y m n a : Int) (h : amE y m n a = 0) : dateB (amY y m n) (amM y m n) (min a (lenI (amY y m n) (amM y m n))) = true ∧ -2400 ≤ n ∧ n ≤ 2400 ∧ 1 ≤ a ∧ a ≤ 31 := by
  by_cases c : -2400 ≤ n ∧ n ≤ 2400 ∧ 1 ≤ a ∧ a ≤ 31
  · refine ⟨?_, c⟩
    rw [(am_yes y m n a c).2] at h
    cases k : dateB (amY y m n) (amM y m n) (min a (lenI (amY y m n) (amM y m n)))
    · rw [(date_no _ _ _ k).2] at h; omega
    · rfl
  · rw [(am_not y m n a c).2] at h; omega
theorem am_err (y m n a : Int) (h : ¬ amE y m n a = 0) : amE y m n a = 1 ∧ amV y m n a = 0 := by
  by_cases c : -2400 ≤ n ∧ n ≤ 2400 ∧ 1 ≤ a ∧ a ≤ 31
  · rw [(am_yes y m n a c).2] at h ⊢
    rw [(am_yes y m n a c).1]
    cases k : dateB (amY y m n) (amM y m n) (min a (lenI (amY y m n) (amM y m n)))
    · exact ⟨(date_no _ _ _ k).2, (date_no _ _ _ k).1⟩
    · rw [(date_yes _ _ _ k).2] at h; omega
  · exact ⟨(am_not y m n a c).2, (am_not y m n a c).1⟩
/-- What AddMonths has found: the civil date of the day, its month and its day of the month. -/
theorem am_found (y m n a x : Int) (h : amE y m n a = 0) (hx : amV y m n a = x) : ∃ Y M D : Int, Civ x Y M D ∧ Y * 12 + M = y * 12 + m + n ∧ ((a ≤ lenI Y M ∧ D = a) ∨ (¬ a ≤ lenI Y M ∧ D = lenI Y M)) := by
  obtain ⟨hd, hr⟩ := am_ok y m n a h
  refine ⟨amY y m n, amM y m n, min a (lenI (amY y m n) (amM y m n)), ?_, by unfold amY amM; omega, by omega⟩
  rw [← hx, (am_yes y m n a hr).1, (date_yes _ _ _ hd).1]
  exact civ_of _ _ _ hd

set_option maxRecDepth 100000 in
set_option maxHeartbeats 4000000 in
theorem rounds_any (day n a : Int) (_ : I64 day) (_ : I64 n) (_ : I64 a) (w : World) (hL : Ln w) (ht : Tb w) :
    Calls Tryd.prog 8 #[.int .i64 day, .int .i64 n, .int .i64 a] w fun e w' => e = .returned (.bool true) ∧ Below w.heap.size w w' := by
  have V := mvalid day w
  cases hv : vdB day
  · rw [hv] at V
    have V := Lib.hid V
    clear hv
    go_enter Tryd.func8, Tryd.ntmps8
    go_wp2_with fail
    refine V.out.mono ?_
    rintro e w1 ⟨rfl, rfl⟩
    go_wp2_with fail
    refine (live_any _ hL ht).mono ?_
    rintro e w9 ⟨rfl, q9⟩
    go_wp2_with fail
    go_ret
    exact ⟨rfl, q9⟩
  rw [hv] at V
  have V := Lib.hid V
  obtain ⟨y, m, d, hc⟩ := civ_ex day hv
  obtain ⟨y, m, d, rfl, rfl, rfl⟩ := civ_nat day y m d hc
  have y0 := hc.y0; have y1 := hc.y1; have m0 := hc.m0; have m1 := hc.m1
  obtain ⟨v0, v1⟩ := hc.valid
  have C0 := Lib.hid (mcivil day y m d hc w hL)
  have D0 := mday y m d w hL
  rw [hc.day.1, hc.day.2] at D0
  have F0 := mfmt day y m d hc w hL ht
  have hsz : (str (textL y m d)).size ≤ 9223372036854775807 := by rw [str_size, text_len]; omega
  have P0 := fun W hT => mparse (str (textL y m d)) hsz W hT
  rw [str_list, (ps_text day y m d hc).1, (ps_text day y m d hc).2] at P0
  have A0 := fun W hT => mam day y m d n a hc W hT
  obtain ⟨S, hS⟩ : ∃ S, str (textL y m d) = S := ⟨_, rfl⟩
  rw [hS] at F0 P0
  have D0 := Lib.hid D0; have F0 := Lib.hid F0; have P0 := Lib.hid P0
  obtain ⟨Y0, hY0⟩ : ∃ Y0 : Int, (y : Int) = Y0 := ⟨_, rfl⟩
  obtain ⟨M0, hM0⟩ : ∃ Y0 : Int, (m : Int) = Y0 := ⟨_, rfl⟩
  rw [hY0, hM0] at A0 C0 D0
  rw [hY0] at y0 y1
  rw [hM0] at m0 m1
  clear hsz hS hv hc hY0 hM0
  by_cases hg : amE Y0 M0 n a = 0
  · obtain ⟨x, hx⟩ : ∃ x, amV Y0 M0 n a = x := ⟨_, rfl⟩
    obtain ⟨Y, M, D, hc, hs, hD⟩ := am_found Y0 M0 n a x hg hx
    obtain ⟨_, n0, n1, a0, a1⟩ := am_ok Y0 M0 n a hg
    simp only [hg, hx] at A0
    have C1 := fun W hT => mcivil x Y M D hc W hT
    have E1 := fun W hT => mend x Y M D hc W hT
    obtain ⟨x0, x1⟩ := hc.valid
    have Y1 := hc.y0; have Y2 := hc.y1; have M1 := hc.m0; have M2 := hc.m1; have D1 := hc.d0; have D2 := hc.d1
    obtain ⟨l0, l1⟩ := len_bd0 Y M
    obtain ⟨Z, hZ⟩ : ∃ Z, lenI Y M = Z := ⟨_, rfl⟩
    rw [hZ] at hD l0 l1 D2
    simp only [hZ] at E1
    have A0 := Lib.hid A0; have C1 := Lib.hid C1
    obtain ⟨T, hT⟩ : ∃ T, Y0 * 12 + M0 + n = T := ⟨_, rfl⟩
    have t0 : 0 ≤ T := by omega
    have t1 : T ≤ 100000 := by omega
    rw [hT] at hs
    clear hZ hc hg hx
    rcases hD with ⟨z1, rfl⟩ | ⟨z1, rfl⟩
    · obtain ⟨E, hE⟩ : ∃ E, x + Z - D = E := ⟨_, rfl⟩
      have e1 : x ≤ E := by omega
      have e2 : E ≤ x + 31 := by omega
      have e3 : D + E - x = Z := by omega
      simp only [hE] at E1
      have E1 := Lib.hid E1
      have hmin : min D Z = D := by omega
      clear hE
      go_enter Tryd.func8, Tryd.ntmps8
      go_wp2_with fail
      refine V.out.mono ?_
      rintro e w1 ⟨rfl, rfl⟩
      go_wp2_with fail
      refine C0.out.mono ?_
      rintro e w1 ⟨rfl, rfl⟩
      go_wp2_with fail
      refine D0.out.mono ?_
      rintro e w1 ⟨rfl, rfl⟩
      go_wp2_with fail
      refine F0.out.mono ?_
      rintro e w2 ⟨rfl, q2⟩
      go_wp2_with fail
      refine (P0.out _ (hL.keep q2)).mono ?_
      rintro e w1 ⟨rfl, n3, rfl⟩
      have Z2 := bdn q2 n3
      go_wp2_with fail
      refine (A0.out _ (hL.keep Z2)).mono ?_
      rintro e w1 ⟨rfl, rfl⟩
      go_wp2_with fail
      refine (C1.out _ (hL.keep Z2)).mono ?_
      rintro e w1 ⟨rfl, rfl⟩
      go_wp2_with fail
      refine (E1.out _ (hL.keep Z2)).mono ?_
      rintro e w1 ⟨rfl, rfl⟩
      go_wp2_with fail
      refine (live_any _ (hL.keep Z2) (ht.keep Z2)).mono ?_
      rintro e w9 ⟨rfl, q9⟩
      have Z9 := btr Z2 q9
      go_wp2_with fail
      go_ret
      exact ⟨rfl, Z9⟩
    · obtain ⟨E, hE⟩ : ∃ E, x + D - D = E := ⟨_, rfl⟩
      have e1 : x ≤ E := by omega
      have e2 : E ≤ x + 31 := by omega
      have e3 : D + E - x = D := by omega
      simp only [hE] at E1
      have E1 := Lib.hid E1
      have hmin : min a D = D := by omega
      clear hE
      go_enter Tryd.func8, Tryd.ntmps8
      go_wp2_with fail
      refine V.out.mono ?_
      rintro e w1 ⟨rfl, rfl⟩
      go_wp2_with fail
      refine C0.out.mono ?_
      rintro e w1 ⟨rfl, rfl⟩
      go_wp2_with fail
      refine D0.out.mono ?_
      rintro e w1 ⟨rfl, rfl⟩
      go_wp2_with fail
      refine F0.out.mono ?_
      rintro e w2 ⟨rfl, q2⟩
      go_wp2_with fail
      refine (P0.out _ (hL.keep q2)).mono ?_
      rintro e w1 ⟨rfl, n3, rfl⟩
      have Z2 := bdn q2 n3
      go_wp2_with fail
      refine (A0.out _ (hL.keep Z2)).mono ?_
      rintro e w1 ⟨rfl, rfl⟩
      go_wp2_with fail
      refine (C1.out _ (hL.keep Z2)).mono ?_
      rintro e w1 ⟨rfl, rfl⟩
      go_wp2_with fail
      refine (E1.out _ (hL.keep Z2)).mono ?_
      rintro e w1 ⟨rfl, rfl⟩
      go_wp2_with fail
      refine (live_any _ (hL.keep Z2) (ht.keep Z2)).mono ?_
      rintro e w9 ⟨rfl, q9⟩
      have Z9 := btr Z2 q9
      go_wp2_with fail
      go_ret
      exact ⟨rfl, Z9⟩
  · obtain ⟨f1, f2⟩ := am_err Y0 M0 n a hg
    simp only [f1, f2] at A0
    have A0 := Lib.hid A0
    clear hg f1 f2
    go_enter Tryd.func8, Tryd.ntmps8
    go_wp2_with fail
    refine V.out.mono ?_
    rintro e w1 ⟨rfl, rfl⟩
    go_wp2_with fail
    refine C0.out.mono ?_
    rintro e w1 ⟨rfl, rfl⟩
    go_wp2_with fail
    refine D0.out.mono ?_
    rintro e w1 ⟨rfl, rfl⟩
    go_wp2_with fail
    refine F0.out.mono ?_
    rintro e w2 ⟨rfl, q2⟩
    go_wp2_with fail
    refine (P0.out _ (hL.keep q2)).mono ?_
    rintro e w1 ⟨rfl, n3, rfl⟩
    have Z2 := bdn q2 n3
    go_wp2_with fail
    refine (A0.out _ (hL.keep Z2)).mono ?_
    rintro e w1 ⟨rfl, rfl⟩
    go_wp2_with fail
    refine (live_any _ (hL.keep Z2) (ht.keep Z2)).mono ?_
    rintro e w9 ⟨rfl, q9⟩
    have Z9 := btr Z2 q9
    go_wp2_with fail
    go_ret
    exact ⟨rfl, Z9⟩
end Go.Proofs.YtipoccelkgijgaaDoor
