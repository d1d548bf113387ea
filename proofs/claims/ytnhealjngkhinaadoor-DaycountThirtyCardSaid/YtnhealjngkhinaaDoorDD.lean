/-
  Contracts of Day, Weekday and MonthEnd, the program's and the document's own.
-/
import Derived.Test.YtnhealjngkhinaaDoorDC
namespace Go.Proofs.YtnhealjngkhinaaDoor
open Go Go.RowKit Go.Lib WM

theorem date_not (y m d : Int) (h : ¬ (2000 ≤ y ∧ y ≤ 2199 ∧ 1 ≤ d ∧ d ≤ lenI y m)) : dateB y m d = false := by
  cases c : dateB y m d
  · rfl
  · exact absurd ((date_iff y m d).1 c) h
/-- The days of a year before its month k. -/
def FirstAt (y m r k : Int) : Prop := 1 ≤ k ∧ k ≤ m ∧ r = ny y + cum y k
theorem FirstAt.lt {y m r k : Int} (h : FirstAt y m r k) (m1 : m ≤ 12) (hk : k < m) : FirstAt y m (r + lenI y k) (k + 1) := by
  obtain ⟨a, b, e⟩ := h
  have l := len_in y k a (by omega)
  exact ⟨by omega, by omega, by omega⟩
theorem FirstAt.bd {y m r k : Int} (h : FirstAt y m r k) (m1 : m ≤ 12) (y0 : 2000 ≤ y) (y1 : y ≤ 2199) : 1 ≤ k ∧ k ≤ 12 ∧ 0 ≤ r ∧ r ≤ 80000 := by
  obtain ⟨a, b, e⟩ := h
  have l := cum_bd y k a (by omega)
  have n := ny_bd y y0 (by omega)
  exact ⟨a, by omega, by omega, by omega⟩

set_option maxHeartbeats 2000000 in
theorem mday (y m d : Int) (w : World) (hL0 : Ln w) :
    Calls Tryd.prog 69 #[.int .i64 y, .int .i64 m, .int .i64 d] w fun e w' => e = .returned (.tuple #[.int .i64 (dayV y m d), .int .i64 (dayE y m d)]) ∧ w = w' := by
  by_cases c1 : y < 2000
  · have HR := Lib.hid (date_no y m d (date_not y m d (by rintro ⟨h1, h2, h3, h4⟩; omega)))
    go_enter Tryd.func69, Tryd.ntmps69
    go_wp2_with fail
    go_ret2
    exact ⟨by rw [HR.out.1, HR.out.2]; rfl, rfl⟩
  by_cases c2 : 2199 < y
  · have HR := Lib.hid (date_no y m d (date_not y m d (by rintro ⟨h1, h2, h3, h4⟩; omega)))
    go_enter Tryd.func69, Tryd.ntmps69
    go_wp2_with fail
    go_ret2
    exact ⟨by rw [HR.out.1, HR.out.2]; rfl, rfl⟩
  by_cases c3 : m < 1
  · have HR := Lib.hid (date_no y m d (date_not y m d (by rintro ⟨h1, h2, h3, h4⟩; rw [len_out y m (by omega)] at h4; omega)))
    go_enter Tryd.func69, Tryd.ntmps69
    go_wp2_with fail
    go_ret2
    exact ⟨by rw [HR.out.1, HR.out.2]; rfl, rfl⟩
  by_cases c4 : 12 < m
  · have HR := Lib.hid (date_no y m d (date_not y m d (by rintro ⟨h1, h2, h3, h4⟩; rw [len_out y m (by omega)] at h4; omega)))
    go_enter Tryd.func69, Tryd.ntmps69
    go_wp2_with fail
    go_ret2
    exact ⟨by rw [HR.out.1, HR.out.2]; rfl, rfl⟩
  by_cases c5 : d < 1
  · have HR := Lib.hid (date_no y m d (date_not y m d (by rintro ⟨h1, h2, h3, h4⟩; omega)))
    go_enter Tryd.func69, Tryd.ntmps69
    go_wp2_with fail
    go_ret2
    exact ⟨by rw [HR.out.1, HR.out.2]; rfl, rfl⟩
  have C := mlength y m (by omega) (by omega) w hL0
  have lb := len_bd0 y m
  obtain ⟨l1, l2⟩ := lb
  by_cases c6 : lenI y m < d
  · have HR := Lib.hid (date_no y m d (date_not y m d (by rintro ⟨h1, h2, h3, h4⟩; omega)))
    obtain ⟨Z, hZ⟩ : ∃ Z, lenI y m = Z := ⟨_, rfl⟩
    rw [hZ] at C c6 l1 l2
    have C := Lib.hid C
    clear hZ
    go_enter Tryd.func69, Tryd.ntmps69
    go_wp2_with fail
    refine C.out.mono ?_
    rintro e w1 ⟨rfl, rfl⟩
    go_wp2_with fail
    go_ret2
    exact ⟨by rw [HR.out.1, HR.out.2]; rfl, rfl⟩
  have hm : 1 ≤ m ∧ m ≤ 12 := by
    by_cases c : 1 ≤ m ∧ m ≤ 12
    · exact c
    · rw [len_out y m (by omega)] at c6; omega
  obtain ⟨m0, m1⟩ := hm
  have HR := Lib.hid (date_yes y m d ((date_iff y m d).2 ⟨by omega, by omega, by omega, by omega⟩))
  have d31 : d ≤ 31 := by omega
  have nb := ny_bd y (by omega) (by omega)
  have HS : Hid (FirstAt y m (ny y) 1) := Lib.hid ⟨by omega, m0, by rw [cum_one]; omega⟩
  have CL := Lib.hid (fun k h1 h2 => mlength y k h1 h2 w hL0)
  have NY := mny y (by omega) (by omega) w
  obtain ⟨Z, hZ⟩ : ∃ Z, lenI y m = Z := ⟨_, rfl⟩
  obtain ⟨N, hN⟩ : ∃ N, ny y = N := ⟨_, rfl⟩
  rw [hZ] at C c6 l1 l2
  rw [hN] at NY nb HS
  obtain ⟨n0, n1⟩ := nb
  have C := Lib.hid C
  have NY := Lib.hid NY
  clear hZ hN
  go_enter Tryd.func69, Tryd.ntmps69
  go_wp2_with fail
  refine C.out.mono ?_
  rintro e w1 ⟨rfl, rfl⟩
  go_wp2_with fail
  refine NY.out.mono ?_
  rintro e w1 ⟨rfl, rfl⟩
  go_wp2_with fail
  go_loop [8, 9] (fun r k => ∃ K R : Int, k = .int .i64 K ∧ r = .int .i64 R ∧ FirstAt y m R K) (fun _ k => (12 - RowKit.intOf k).toNat)
  case atStart => exact ⟨1, N, rfl, rfl, HS.out⟩
  case round =>
    obtain ⟨q, s, rfl, rfl, hA⟩ := hrel
    obtain ⟨k1, k2, r1, r2⟩ := hA.bd m1 (by omega) (by omega)
    have C := CL.out q k1 k2
    have lb := len_bd0 y q
    obtain ⟨l1, l2⟩ := lb
    by_cases hk : q < m
    · have a2 := hA.lt m1 hk
      have hq12 : q < 12 := by omega
      obtain ⟨L, hLe⟩ : ∃ L, lenI y q = L := ⟨_, rfl⟩
      rw [hLe] at C a2 l1 l2
      have HA := Lib.hid a2
      have C := Lib.hid C
      clear a2 hLe hA
      go_wp2_with fail
      refine C.out.mono ?_
      rintro e w1 ⟨rfl, rfl⟩
      go_wp2_with fail
      go_round
      case rel => exact ⟨q + 1, s + L, rfl, rfl, HA.out⟩
      case measure => simp [RowKit.intOf]; omega
    · obtain ⟨_, _, e⟩ := hA
      have hqm : q = m := by omega
      have HE : Hid (s = ny y + cum y m) := Lib.hid (by rw [← hqm]; exact e)
      subst hqm
      clear e hk C l1 l2
      go_wp2_with fail
      go_ret2
      exact ⟨by rw [HR.out.1, HR.out.2, ← HE.out]; rfl, rfl⟩

/-- The document's days before the year k, and the day of the month. -/
def YearsAt (y d r k : Int) : Prop := 2000 ≤ k ∧ k ≤ y ∧ r = ny k + d - 1
theorem YearsAt.lt {y d r k : Int} (h : YearsAt y d r k) (hk : k < y) : YearsAt y d (r + (365 + lp k)) (k + 1) := by
  obtain ⟨a, b, e⟩ := h
  have l := ny_succ k
  exact ⟨by omega, by omega, by omega⟩
theorem YearsAt.bd {y d r k : Int} (h : YearsAt y d r k) (y1 : y ≤ 2199) (d0 : 1 ≤ d) (d1 : d ≤ 31) : 2000 ≤ k ∧ k ≤ 2199 ∧ 0 ≤ r ∧ r ≤ 80000 := by
  obtain ⟨a, b, e⟩ := h
  have n := ny_bd k a (by omega)
  exact ⟨a, by omega, by omega, by omega⟩
theorem YearsAt.at {y d r k : Int} (h : YearsAt y d r k) (hk : ¬ k < y) : k = y ∧ r = ny y + d - 1 := by
  obtain ⟨a, b, e⟩ := h
  have : k = y := by omega
  subst this
  exact ⟨rfl, e⟩

set_option maxHeartbeats 2000000 in
theorem rday (y m d : Int) (w : World) :
    Calls Tryd.prog 31 #[.int .i64 y, .int .i64 m, .int .i64 d] w fun e w' => e = .returned (.tuple #[.int .i64 (dayV y m d), .int .i64 (dayE y m d)]) ∧ w = w' := by
  by_cases c1 : y < 2000
  · have HR := Lib.hid (date_no y m d (date_not y m d (by rintro ⟨h1, h2, h3, h4⟩; omega)))
    go_enter Tryd.func31, Tryd.ntmps31
    go_wp2_with fail
    go_ret2
    exact ⟨by rw [HR.out.1, HR.out.2]; rfl, rfl⟩
  by_cases c2 : 2199 < y
  · have HR := Lib.hid (date_no y m d (date_not y m d (by rintro ⟨h1, h2, h3, h4⟩; omega)))
    go_enter Tryd.func31, Tryd.ntmps31
    go_wp2_with fail
    go_ret2
    exact ⟨by rw [HR.out.1, HR.out.2]; rfl, rfl⟩
  by_cases c3 : d < 1
  · have HR := Lib.hid (date_no y m d (date_not y m d (by rintro ⟨h1, h2, h3, h4⟩; omega)))
    go_enter Tryd.func31, Tryd.ntmps31
    go_wp2_with fail
    go_ret2
    exact ⟨by rw [HR.out.1, HR.out.2]; rfl, rfl⟩
  have C := rlength y m w
  have lb := len_bd0 y m
  obtain ⟨l1, l2⟩ := lb
  by_cases c6 : lenI y m < d
  · have HR := Lib.hid (date_no y m d (date_not y m d (by rintro ⟨h1, h2, h3, h4⟩; omega)))
    obtain ⟨Z, hZ⟩ : ∃ Z, lenI y m = Z := ⟨_, rfl⟩
    rw [hZ] at C c6 l1 l2
    have C := Lib.hid C
    clear hZ
    go_enter Tryd.func31, Tryd.ntmps31
    go_wp2_with fail
    refine C.out.mono ?_
    rintro e w1 ⟨rfl, rfl⟩
    go_wp2_with fail
    go_ret2
    exact ⟨by rw [HR.out.1, HR.out.2]; rfl, rfl⟩
  have hm : 1 ≤ m ∧ m ≤ 12 := by
    by_cases c : 1 ≤ m ∧ m ≤ 12
    · exact c
    · rw [len_out y m (by omega)] at c6; omega
  obtain ⟨m0, m1⟩ := hm
  have HR := Lib.hid (date_yes y m d ((date_iff y m d).2 ⟨by omega, by omega, by omega, by omega⟩))
  have d31 : d ≤ 31 := by omega
  have nb := ny_bd y (by omega) (by omega)
  have HS : Hid (FirstAt y m (ny y) 1) := Lib.hid ⟨by omega, m0, by rw [cum_one]; omega⟩
  have YL := Lib.hid (fun k => ryear k w)
  have CL := Lib.hid (fun k => rlength y k w)
  have HS2 : Hid (YearsAt y d (d - 1) 2000) := Lib.hid ⟨by omega, by omega, by rw [ny_2000]; omega⟩
  obtain ⟨Z, hZ⟩ : ∃ Z, lenI y m = Z := ⟨_, rfl⟩
  obtain ⟨N, hN⟩ : ∃ N, ny y = N := ⟨_, rfl⟩
  rw [hZ] at C c6 l1 l2
  rw [hN] at nb HS
  obtain ⟨n0, n1⟩ := nb
  have C := Lib.hid C
  have HN := Lib.hid hN
  clear hZ hN
  go_enter Tryd.func31, Tryd.ntmps31
  go_wp2_with fail
  refine C.out.mono ?_
  rintro e w1 ⟨rfl, rfl⟩
  go_wp2_with fail
  go_loop [8, 9] (fun r k => ∃ K R : Int, k = .int .i64 K ∧ r = .int .i64 R ∧ YearsAt y d R K) (fun _ k => (2199 - RowKit.intOf k).toNat)
  case atStart => exact ⟨2000, d - 1, rfl, rfl, HS2.out⟩
  case round =>
    obtain ⟨k, r, rfl, rfl, hA⟩ := hrel
    obtain ⟨k1, k2, r1, r2⟩ := hA.bd (by omega) (by omega) (by omega)
    have C := YL.out k
    have lb := lp_01 k
    by_cases hk : k < y
    · have a2 := hA.lt hk
      have hk99 : k < 2199 := by omega
      have l3 : 365 ≤ 365 + lp k := by omega
      have l4 : 365 + lp k ≤ 366 := by omega
      clear lb
      obtain ⟨L, hLe⟩ : ∃ L, 365 + lp k = L := ⟨_, rfl⟩
      rw [hLe] at C a2 l3 l4
      have HA := Lib.hid a2
      have C := Lib.hid C
      clear a2 hLe hA
      go_wp2_with fail
      refine C.out.mono ?_
      rintro e w1 ⟨rfl, rfl⟩
      go_wp2_with fail
      go_round
      case rel => exact ⟨k + 1, r + L, rfl, rfl, HA.out⟩
      case measure => simp [RowKit.intOf]; omega
    obtain ⟨hky, a2⟩ := hA.at hk
    rw [HN.out] at a2
    subst hky
    subst a2
    clear hk hA lb C
    go_wp2_with fail
    go_loop [8, 10] (fun r u => ∃ K R : Int, u = .int .i64 K ∧ r = .int .i64 (R + d - 1) ∧ FirstAt k m R K) (fun _ u => (12 - RowKit.intOf u).toNat)
    case atStart => exact ⟨1, N, rfl, rfl, HS.out⟩
    case round =>
      obtain ⟨q, s, rfl, rfl, hA⟩ := hrel
      obtain ⟨k1, k2, r1, r2⟩ := hA.bd m1 (by omega) (by omega)
      have C := CL.out q
      have lb := len_bd0 k q
      obtain ⟨l1, l2⟩ := lb
      by_cases hk : q < m
      · have a2 := hA.lt m1 hk
        have hq12 : q < 12 := by omega
        obtain ⟨L, hLe⟩ : ∃ L, lenI k q = L := ⟨_, rfl⟩
        rw [hLe] at C a2 l1 l2
        have HA := Lib.hid a2
        have C := Lib.hid C
        clear a2 hLe hA
        go_wp2_with fail
        refine C.out.mono ?_
        rintro e w1 ⟨rfl, rfl⟩
        go_wp2_with fail
        go_round
        case rel => exact ⟨q + 1, s + L, rfl, by congr 1; omega, HA.out⟩
        case measure => simp [RowKit.intOf]; omega
      · obtain ⟨_, _, e⟩ := hA
        have hqm : q = m := by omega
        have HE : Hid (s = ny k + cum k m) := Lib.hid (by rw [← hqm]; exact e)
        subst hqm
        clear e hk C l1 l2
        go_wp2_with fail
        go_ret2
        exact ⟨by rw [HR.out.1, HR.out.2, ← HE.out]; rfl, rfl⟩
end Go.Proofs.YtnhealjngkhinaaDoor
