/-
  Contracts of Civil, the program's and the document's own: the civil date of a day.
-/
import Derived.Test.YtnhealjngkhinaaDoorDB
namespace Go.Proofs.YtnhealjngkhinaaDoor
open Go Go.RowKit Go.Lib WM

theorem mcivil_no (day : Int) (h : vdB day = false) (w : World) :
    Calls Tryd.prog 44 #[.int .i64 day] w fun e w' => e = .returned (.tuple #[.int .i64 0, .int .i64 0, .int .i64 0]) ∧ w = w' := by
  have V := fun W => mvalid day W
  simp only [h] at V
  have V := Lib.hid V
  clear h
  go_enter Tryd.func44, Tryd.ntmps44
  go_wp2_with fail
  refine (V.out _).mono ?_
  rintro e w1 ⟨rfl, rfl⟩
  go_wp2_with fail
  go_ret3
  exact ⟨rfl, rfl⟩
theorem rcivil_no (day : Int) (h : vdB day = false) (w : World) :
    Calls Tryd.prog 46 #[.int .i64 day] w fun e w' => e = .returned (.tuple #[.int .i64 0, .int .i64 0, .int .i64 0]) ∧ w = w' := by
  have V := fun W => rvalid day W
  simp only [h] at V
  have V := Lib.hid V
  clear h
  go_enter Tryd.func46, Tryd.ntmps46
  go_wp2_with fail
  refine (V.out _).mono ?_
  rintro e w1 ⟨rfl, rfl⟩
  go_wp2_with fail
  go_ret3
  exact ⟨rfl, rfl⟩

/-- How far the search of the month is: r days are left at the month k. -/
def AtMonth (day y m r k : Int) : Prop := 1 ≤ k ∧ k ≤ m ∧ r = day - ny y - cum y k
theorem AtMonth.lt {day y m d r k : Int} (h : AtMonth day y m r k) (c : Civ day y m d) (hk : k < m) : lenI y k ≤ r ∧ AtMonth day y m (r - lenI y k) (k + 1) := by
  obtain ⟨a, b, e⟩ := h
  have f := c.month_lt a hk
  have l := len_in y k a (by have := c.m1; omega)
  exact ⟨by omega, by omega, by omega, by omega⟩
theorem AtMonth.at {day y m d r k : Int} (h : AtMonth day y m r k) (c : Civ day y m d) (hk : ¬ k < m) : k = m ∧ r < lenI y k ∧ r + 1 = d := by
  obtain ⟨a, b, e⟩ := h
  have f := c.month_at
  have g := c.sum
  have hkm : k = m := by omega
  subst hkm
  exact ⟨rfl, by omega, by omega⟩
theorem AtMonth.bd {day y m d r k : Int} (h : AtMonth day y m r k) (c : Civ day y m d) : 1 ≤ k ∧ k ≤ 12 ∧ 0 ≤ r ∧ r ≤ 366 := by
  obtain ⟨a, b, e⟩ := h
  have f := c.inYear
  have g := cum_mono y k m b
  have l := cum_bd y k a (by have := c.m1; omega)
  have s := ny_succ y
  have lp := lp_01 y
  have := c.m1
  exact ⟨a, by omega, by omega, by omega⟩

set_option maxHeartbeats 2000000 in
theorem mcivil (day y m d : Int) (h : Civ day y m d) (w : World) (hL : Ln w) :
    Calls Tryd.prog 44 #[.int .i64 day] w fun e w' => e = .returned (.tuple #[.int .i64 y, .int .i64 m, .int .i64 d]) ∧ w = w' := by
  have V := fun W => mvalid day W
  simp only [h.vd] at V
  obtain ⟨v0, v1⟩ := h.valid
  have y0 := h.y0; have y1 := h.y1
  have hst : AtMonth day y m (day - ny y) 1 := ⟨by omega, h.m0, by rw [cum_one]; omega⟩
  obtain ⟨b1, b2, b3, b4⟩ := hst.bd h
  have HL := Lib.hid (fun k h1 h2 => mlength y k h1 h2 w hL)
  have NY := fun W => mny y (by omega) (by omega) W
  have HG := h.guess
  have V := Lib.hid V
  have H := Lib.hid h
  obtain ⟨N, hN⟩ : ∃ N, ny y = N := ⟨_, rfl⟩
  rw [hN] at NY b3 b4 hst
  have NY := Lib.hid NY
  have HS := Lib.hid hst
  have NYE := Lib.hid hN
  clear hst hN h
  rcases HG with ⟨hg, hgn⟩ | ⟨hg, hgn⟩
  · have e1 : ny (2000 + day / 365) = N := by rw [hg]; exact NYE.out
    have hgn : ¬ day < N := by rw [← e1]; exact hgn
    clear e1
    go_enter Tryd.func44, Tryd.ntmps44
    go_wp2_with fail
    refine (V.out _).mono ?_
    rintro e w1 ⟨rfl, rfl⟩
    go_wp2_with fail
    refine (NY.out _).mono ?_
    rintro e w1 ⟨rfl, rfl⟩
    go_wp2_with fail
    refine (NY.out _).mono ?_
    rintro e w1 ⟨rfl, rfl⟩
    go_wp2_with fail
    go_loop [6, 7] (fun k r => ∃ K R : Int, k = .int .i64 K ∧ r = .int .i64 R ∧ AtMonth day y m R K) (fun k _ => (12 - RowKit.intOf k).toNat)
    case atStart => exact ⟨1, day - N, rfl, rfl, HS.out⟩
    case round =>
      obtain ⟨k, r, rfl, rfl, hA⟩ := hrel
      obtain ⟨k1, k2, r1, r2⟩ := hA.bd H.out
      have C := HL.out k k1 k2
      have lb := len_bd y k k1 k2
      obtain ⟨l1, l2⟩ := lb
      by_cases hk : k < m
      · obtain ⟨a1, a2⟩ := hA.lt H.out hk
        have km := H.out.m1
        have hk12 : k < 12 := by omega
        clear km
        obtain ⟨L, hLe⟩ : ∃ L, lenI y k = L := ⟨_, rfl⟩
        rw [hLe] at C a1 a2 l1 l2
        have HA := Lib.hid a2
        have C := Lib.hid C
        clear a2 hLe hA
        go_wp2_with fail
        refine C.out.mono ?_
        rintro e w1 ⟨rfl, rfl⟩
        go_wp2_with fail
        refine C.out.mono ?_
        rintro e w1 ⟨rfl, rfl⟩
        go_wp2_with fail
        go_round
        case rel => exact ⟨k + 1, r - L, rfl, rfl, HA.out⟩
        case measure => simp [RowKit.intOf]; omega
      · obtain ⟨rfl, a1, a2⟩ := hA.at H.out hk
        obtain ⟨L, hLe⟩ : ∃ L, lenI y k = L := ⟨_, rfl⟩
        rw [hLe] at C a1 l1 l2
        have HA := Lib.hid a2
        have C := Lib.hid C
        clear a2 hLe hA hk
        go_wp2_with fail
        refine C.out.mono ?_
        rintro e w1 ⟨rfl, rfl⟩
        go_wp2_with fail
        go_ret3
        exact ⟨by rw [← HA.out]; rfl, rfl⟩
  · have NY1 := fun W => mny (y + 1) (by omega) (by omega) W
    rw [hg] at hgn
    obtain ⟨M, hM⟩ : ∃ M, ny (y + 1) = M := ⟨_, rfl⟩
    rw [hM] at NY1 hgn
    have NY1 := Lib.hid NY1
    clear hM
    go_enter Tryd.func44, Tryd.ntmps44
    go_wp2_with fail
    refine (V.out _).mono ?_
    rintro e w1 ⟨rfl, rfl⟩
    go_wp2_with fail
    refine (NY1.out _).mono ?_
    rintro e w1 ⟨rfl, rfl⟩
    go_wp2_with fail
    refine (NY.out _).mono ?_
    rintro e w1 ⟨rfl, rfl⟩
    go_wp2_with fail
    go_loop [6, 7] (fun k r => ∃ K R : Int, k = .int .i64 K ∧ r = .int .i64 R ∧ AtMonth day y m R K) (fun k _ => (12 - RowKit.intOf k).toNat)
    case atStart => exact ⟨1, day - N, rfl, rfl, HS.out⟩
    case round =>
      obtain ⟨k, r, rfl, rfl, hA⟩ := hrel
      obtain ⟨k1, k2, r1, r2⟩ := hA.bd H.out
      have C := HL.out k k1 k2
      have lb := len_bd y k k1 k2
      obtain ⟨l1, l2⟩ := lb
      by_cases hk : k < m
      · obtain ⟨a1, a2⟩ := hA.lt H.out hk
        have km := H.out.m1
        have hk12 : k < 12 := by omega
        clear km
        obtain ⟨L, hLe⟩ : ∃ L, lenI y k = L := ⟨_, rfl⟩
        rw [hLe] at C a1 a2 l1 l2
        have HA := Lib.hid a2
        have C := Lib.hid C
        clear a2 hLe hA
        go_wp2_with fail
        refine C.out.mono ?_
        rintro e w1 ⟨rfl, rfl⟩
        go_wp2_with fail
        refine C.out.mono ?_
        rintro e w1 ⟨rfl, rfl⟩
        go_wp2_with fail
        go_round
        case rel => exact ⟨k + 1, r - L, rfl, rfl, HA.out⟩
        case measure => simp [RowKit.intOf]; omega
      · obtain ⟨rfl, a1, a2⟩ := hA.at H.out hk
        obtain ⟨L, hLe⟩ : ∃ L, lenI y k = L := ⟨_, rfl⟩
        rw [hLe] at C a1 l1 l2
        have HA := Lib.hid a2
        have C := Lib.hid C
        clear a2 hLe hA hk
        go_wp2_with fail
        refine C.out.mono ?_
        rintro e w1 ⟨rfl, rfl⟩
        go_wp2_with fail
        go_ret3
        exact ⟨by rw [← HA.out]; rfl, rfl⟩

/-- How far the document's search of the year is. -/
def AtYear (day y r k : Int) : Prop := 2000 ≤ k ∧ k ≤ y ∧ r = day - ny k
theorem AtYear.bd {day y m d r k : Int} (h : AtYear day y r k) (c : Civ day y m d) : 2000 ≤ k ∧ k ≤ 2199 ∧ 0 ≤ r ∧ r ≤ 73048 := by
  obtain ⟨a, b, e⟩ := h
  have f := c.inYear
  have g := ny_mono k y b
  have l := ny_mono 2000 k a
  rw [ny_2000] at l
  have := c.y1; have := c.valid
  exact ⟨a, by omega, by omega, by omega⟩
theorem AtYear.lt {day y m d r k : Int} (h : AtYear day y r k) (c : Civ day y m d) (hk : k < y) : 365 + lp k ≤ r ∧ AtYear day y (r - (365 + lp k)) (k + 1) := by
  obtain ⟨a, b, e⟩ := h
  have f := c.year_lt hk
  have l := ny_succ k
  exact ⟨by omega, by omega, by omega, by omega⟩
theorem AtYear.at {day y m d r k : Int} (h : AtYear day y r k) (c : Civ day y m d) (hk : ¬ k < y) : k = y ∧ r < 365 + lp k ∧ AtMonth day y m r 1 := by
  obtain ⟨a, b, e⟩ := h
  have f := c.year_at
  have hkm : k = y := by omega
  subst hkm
  exact ⟨rfl, by omega, by omega, c.m0, by rw [cum_one]; omega⟩

set_option maxHeartbeats 2000000 in
theorem rcivil (day y m d : Int) (h : Civ day y m d) (w : World) :
    Calls Tryd.prog 46 #[.int .i64 day] w fun e w' => e = .returned (.tuple #[.int .i64 y, .int .i64 m, .int .i64 d]) ∧ w = w' := by
  have V := fun W => rvalid day W
  simp only [h.vd] at V
  obtain ⟨v0, v1⟩ := h.valid
  have V := Lib.hid V
  have H := Lib.hid h
  have HL := Lib.hid (fun k => rlength y k w)
  have HS : Hid (AtYear day y day 2000) := Lib.hid ⟨by omega, h.y0, by rw [ny_2000]; omega⟩
  clear h
  go_enter Tryd.func46, Tryd.ntmps46
  go_wp2_with fail
  refine (V.out _).mono ?_
  rintro e w1 ⟨rfl, rfl⟩
  go_wp2_with fail
  go_loop [0, 5] (fun r k => ∃ K R : Int, k = .int .i64 K ∧ r = .int .i64 R ∧ AtYear day y R K) (fun _ k => (2199 - RowKit.intOf k).toNat)
  case atStart => exact ⟨2000, day, rfl, rfl, HS.out⟩
  case round =>
    obtain ⟨k, r, rfl, rfl, hA⟩ := hrel
    obtain ⟨k1, k2, r1, r2⟩ := hA.bd H.out
    have C := ryear k w
    have lb := lp_01 k
    obtain ⟨l1, l2⟩ := lb
    by_cases hk : k < y
    · obtain ⟨a1, a2⟩ := hA.lt H.out hk
      have km := H.out.y1
      have hk12 : k < 2199 := by omega
      clear km
      have l3 : 365 ≤ 365 + lp k := by omega
      have l4 : 365 + lp k ≤ 366 := by omega
      clear l1 l2
      obtain ⟨L, hLe⟩ : ∃ L, 365 + lp k = L := ⟨_, rfl⟩
      rw [hLe] at C a1 a2 l3 l4
      have HA := Lib.hid a2
      have C := Lib.hid C
      clear a2 hLe hA
      go_wp2_with fail
      refine C.out.mono ?_
      rintro e w1 ⟨rfl, rfl⟩
      go_wp2_with fail
      refine C.out.mono ?_
      rintro e w1 ⟨rfl, rfl⟩
      go_wp2_with fail
      go_round
      case rel => exact ⟨k + 1, r - L, rfl, rfl, HA.out⟩
      case measure => simp [RowKit.intOf]; omega
    · obtain ⟨rfl, a1, a2⟩ := hA.at H.out hk
      have l3 : 365 ≤ 365 + lp k := by omega
      have l4 : 365 + lp k ≤ 366 := by omega
      clear l1 l2
      obtain ⟨L, hLe⟩ : ∃ L, 365 + lp k = L := ⟨_, rfl⟩
      rw [hLe] at C a1 l3 l4
      have HA := Lib.hid a2
      have C := Lib.hid C
      clear a2 hLe hA hk
      go_wp2_with fail
      refine C.out.mono ?_
      rintro e w1 ⟨rfl, rfl⟩
      go_wp2_with fail
      go_loop [0, 6] (fun z u => ∃ K R : Int, u = .int .i64 K ∧ z = .int .i64 R ∧ AtMonth day k m R K) (fun _ u => (12 - RowKit.intOf u).toNat)
      case atStart => exact ⟨1, r, rfl, rfl, HA.out⟩
      case round =>
        obtain ⟨q, s, rfl, rfl, hA⟩ := hrel
        obtain ⟨k1, k2, r1, r2⟩ := hA.bd H.out
        have C := HL.out q
        have lb := len_bd k q k1 k2
        obtain ⟨l1, l2⟩ := lb
        by_cases hk : q < m
        · obtain ⟨a1, a2⟩ := hA.lt H.out hk
          have km := H.out.m1
          have hk12 : q < 12 := by omega
          clear km
          obtain ⟨L, hLe⟩ : ∃ L, lenI k q = L := ⟨_, rfl⟩
          rw [hLe] at C a1 a2 l1 l2
          have HA := Lib.hid a2
          have C := Lib.hid C
          clear a2 hLe hA
          go_wp2_with fail
          refine C.out.mono ?_
          rintro e w1 ⟨rfl, rfl⟩
          go_wp2_with fail
          refine C.out.mono ?_
          rintro e w1 ⟨rfl, rfl⟩
          go_wp2_with fail
          go_round
          case rel => exact ⟨q + 1, s - L, rfl, rfl, HA.out⟩
          case measure => simp [RowKit.intOf]; omega
        · obtain ⟨rfl, a1, a2⟩ := hA.at H.out hk
          obtain ⟨L, hLe⟩ : ∃ L, lenI k q = L := ⟨_, rfl⟩
          rw [hLe] at C a1 l1 l2
          have HA := Lib.hid a2
          have C := Lib.hid C
          clear a2 hLe hA hk
          go_wp2_with fail
          refine C.out.mono ?_
          rintro e w1 ⟨rfl, rfl⟩
          go_wp2_with fail
          go_ret3
          exact ⟨by rw [← HA.out]; rfl, rfl⟩
end Go.Proofs.YtnhealjngkhinaaDoor
