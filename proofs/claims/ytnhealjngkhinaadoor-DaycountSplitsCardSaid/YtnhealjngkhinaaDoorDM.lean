/-
  Civil dates, plain: leap years, lengths of months, the day of a date, the date of a day.
-/
import Derived.RowKit
import Derived.Lib.Hide
import Derived.Lib.LaidTab
namespace Go.Proofs.YtnhealjngkhinaaDoor.WM
open Go Go.RowKit Go.Lib

def leapB (y : Int) : Bool := decide (y % 4 = 0 ∧ (y % 100 ≠ 0 ∨ y % 400 = 0))
def lp (y : Int) : Int := if leapB y = true then 1 else 0
/-- The days of a year before its month m. -/
def cum (y m : Int) : Int := (367 * m - 362) / 12 + (if m ≤ 2 then 0 else lp y - 2)
def lenI (y m : Int) : Int := if 1 ≤ m ∧ m ≤ 12 then cum y (m + 1) - cum y m else 0
def dby (y : Int) : Int := (y - 1) * 365 + (y - 1) / 4 - (y - 1) / 100 + (y - 1) / 400
def ny (y : Int) : Int := dby y - 730119
def vdB (day : Int) : Bool := decide (0 ≤ day ∧ day ≤ 73048)
def dateB (y m d : Int) : Bool := decide (2000 ≤ y ∧ y ≤ 2199 ∧ 1 ≤ d ∧ d ≤ lenI y m)
def dayE (y m d : Int) : Int := if dateB y m d = true then 0 else 1
def dayV (y m d : Int) : Int := if dateB y m d = true then ny y + cum y m + d - 1 else 0

theorem lp_01 (y : Int) : 0 ≤ lp y ∧ lp y ≤ 1 := by unfold lp; split <;> omega
theorem leap_iff (y : Int) : leapB y = true ↔ y % 4 = 0 ∧ (y % 100 ≠ 0 ∨ y % 400 = 0) := by simp [leapB]
theorem lp_cases (y : Int) : (lp y = 1 ∧ y % 4 = 0 ∧ (y % 100 ≠ 0 ∨ y % 400 = 0)) ∨ (lp y = 0 ∧ (y % 4 ≠ 0 ∨ (y % 100 = 0 ∧ y % 400 ≠ 0))) := by
  unfold lp
  split
  · rename_i h; exact Or.inl ⟨rfl, (leap_iff y).1 h⟩
  · rename_i h; rw [leap_iff] at h; exact Or.inr ⟨rfl, by omega⟩
theorem ny_succ (y : Int) : ny (y + 1) = ny y + 365 + lp y := by
  have := lp_cases y
  unfold ny dby
  omega
theorem ny_2000 : ny 2000 = 0 := by decide
theorem ny_2200 : ny 2200 = 73049 := by decide
theorem cum_one (y : Int) : cum y 1 = 0 := by unfold cum; rw [if_pos (by omega)]; decide
theorem cum_13 (y : Int) : cum y 13 = 365 + lp y := by unfold cum; rw [if_neg (by omega)]; omega
theorem cum_mono (y a b : Int) (h : a ≤ b) : cum y a ≤ cum y b := by
  have := lp_01 y
  unfold cum
  split <;> split <;> omega
theorem cum_bd (y m : Int) (h1 : 1 ≤ m) (h2 : m ≤ 13) : 0 ≤ cum y m ∧ cum y m ≤ 366 := by
  have := lp_01 y
  unfold cum
  split <;> omega
theorem len_in (y m : Int) (h1 : 1 ≤ m) (h2 : m ≤ 12) : lenI y m = cum y (m + 1) - cum y m := by unfold lenI; rw [if_pos ⟨h1, h2⟩]
theorem len_out (y m : Int) (h : m < 1 ∨ 12 < m) : lenI y m = 0 := by unfold lenI; rw [if_neg (by omega)]
theorem len_bd (y m : Int) (h1 : 1 ≤ m) (h2 : m ≤ 12) : 28 ≤ lenI y m ∧ lenI y m ≤ 31 := by
  have := lp_01 y
  rw [len_in y m h1 h2]
  unfold cum
  split <;> split <;> omega
theorem len_bd0 (y m : Int) : 0 ≤ lenI y m ∧ lenI y m ≤ 31 := by
  by_cases h : 1 ≤ m ∧ m ≤ 12
  · have := len_bd y m h.1 h.2; omega
  · rw [len_out y m (by omega)]; omega
theorem len_at (y m : Int) : (m = 2 ∧ lenI y m = 28 + lp y) ∨ ((m = 4 ∨ m = 6 ∨ m = 9 ∨ m = 11) ∧ lenI y m = 30) ∨ ((m = 1 ∨ m = 3 ∨ m = 5 ∨ m = 7 ∨ m = 8 ∨ m = 10 ∨ m = 12) ∧ lenI y m = 31) ∨ ((m < 1 ∨ 12 < m) ∧ lenI y m = 0) := by
  by_cases h : 1 ≤ m ∧ m ≤ 12
  · have e := len_in y m h.1 h.2
    unfold cum at e
    have hm : m = 1 ∨ m = 2 ∨ m = 3 ∨ m = 4 ∨ m = 5 ∨ m = 6 ∨ m = 7 ∨ m = 8 ∨ m = 9 ∨ m = 10 ∨ m = 11 ∨ m = 12 := by omega
    rcases hm with rfl | rfl | rfl | rfl | rfl | rfl | rfl | rfl | rfl | rfl | rfl | rfl <;> simp at e <;> omega
  · exact Or.inr (Or.inr (Or.inr ⟨by omega, len_out y m (by omega)⟩))

/-- What the table of the lengths holds at a month. -/
def lengthsTab : List Int := [31, 28, 31, 30, 31, 30, 31, 31, 30, 31, 30, 31]
theorem len_tab (y m : Int) (h1 : 1 ≤ m) (h2 : m ≤ 12) : lenI y m = lengthsTab.getD (m - 1).toNat 0 + (if m = 2 then lp y else 0) := by
  have e := len_at y m
  have hm : m = 1 ∨ m = 2 ∨ m = 3 ∨ m = 4 ∨ m = 5 ∨ m = 6 ∨ m = 7 ∨ m = 8 ∨ m = 9 ∨ m = 10 ∨ m = 11 ∨ m = 12 := by omega
  rcases hm with rfl | rfl | rfl | rfl | rfl | rfl | rfl | rfl | rfl | rfl | rfl | rfl <;> simp [lengthsTab] at e ⊢ <;> omega

/-- y, m, d is the civil date of a day. -/
structure Civ (day y m d : Int) : Prop where
  y0 : 2000 ≤ y
  y1 : y ≤ 2199
  m0 : 1 ≤ m
  m1 : m ≤ 12
  d0 : 1 ≤ d
  d1 : d ≤ lenI y m
  sum : ny y + cum y m + d - 1 = day

theorem year_ex (day : Int) (h0 : 0 ≤ day) (n : Nat) : day < ny (2000 + n) → ∃ y : Int, 2000 ≤ y ∧ y < 2000 + n ∧ ny y ≤ day ∧ day < ny (y + 1) := by
  induction n with
  | zero => intro h; rw [show (2000 : Int) + (0 : Nat) = 2000 by omega, ny_2000] at h; omega
  | succ n ih =>
    intro h
    by_cases c : day < ny (2000 + n)
    · obtain ⟨y, a, b, e, f⟩ := ih c
      exact ⟨y, a, by omega, e, f⟩
    · exact ⟨2000 + n, by omega, by omega, by omega, by rw [show (2000 : Int) + n + 1 = 2000 + (n + 1 : Nat) by omega]; exact h⟩
theorem month_ex (y r : Int) (h0 : 0 ≤ r) (n : Nat) : r < cum y (1 + n) → ∃ m : Int, 1 ≤ m ∧ m < 1 + n ∧ cum y m ≤ r ∧ r < cum y (m + 1) := by
  induction n with
  | zero => intro h; rw [show (1 : Int) + (0 : Nat) = 1 by omega, cum_one] at h; omega
  | succ n ih =>
    intro h
    by_cases c : r < cum y (1 + n)
    · obtain ⟨m, a, b, e, f⟩ := ih c
      exact ⟨m, a, by omega, e, f⟩
    · exact ⟨1 + n, by omega, by omega, by omega, by rw [show (1 : Int) + n + 1 = 1 + (n + 1 : Nat) by omega]; exact h⟩
theorem civ_ex (day : Int) (h : vdB day = true) : ∃ y m d, Civ day y m d := by
  have h2 : 0 ≤ day ∧ day ≤ 73048 := by simpa [vdB] using h
  obtain ⟨y, y0, y1, e0, e1⟩ := year_ex day h2.1 200 (by rw [show (2000 : Int) + (200 : Nat) = 2200 by omega, ny_2200]; omega)
  rw [ny_succ] at e1
  obtain ⟨m, m0, m1, f0, f1⟩ := month_ex y (day - ny y) (by omega) 12 (by rw [show (1 : Int) + (12 : Nat) = 13 by omega, cum_13]; omega)
  refine ⟨y, m, day - ny y - cum y m + 1, by omega, by omega, by omega, by omega, by omega, ?_, by omega⟩
  rw [len_in y m (by omega) (by omega)]
  omega
theorem ny_bd (y : Int) (h0 : 2000 ≤ y) (h1 : y ≤ 2200) : 365 * (y - 2000) ≤ ny y ∧ ny y ≤ 365 * (y - 2000) + 49 := by
  unfold ny dby; omega
theorem ny_mono (a b : Int) (h : a ≤ b) : ny a ≤ ny b := by unfold ny dby; omega
/-- Where a day lies in its year. -/
theorem Civ.inYear {day y m d : Int} (h : Civ day y m d) : ny y ≤ day ∧ day < ny (y + 1) ∧ cum y m ≤ day - ny y ∧ day - ny y < cum y (m + 1) := by
  have a := cum_bd y m h.m0 (by have := h.m1; omega)
  have b := len_in y m h.m0 h.m1
  have c := cum_mono y (m + 1) 13 (by have := h.m1; omega)
  have e := ny_succ y
  rw [cum_13] at c
  have := h.sum; have := h.d0; have := h.d1
  omega
theorem Civ.valid {day y m d : Int} (h : Civ day y m d) : 0 ≤ day ∧ day ≤ 73048 := by
  have a := h.inYear
  have b := ny_mono 2000 y h.y0
  have c := ny_mono (y + 1) 2200 (by have := h.y1; omega)
  rw [ny_2000] at b; rw [ny_2200] at c
  omega
theorem Civ.vd {day y m d : Int} (h : Civ day y m d) : vdB day = true := by simpa [vdB] using h.valid
theorem Civ.guess {day y m d : Int} (h : Civ day y m d) : (2000 + day / 365 = y ∧ ¬ day < ny (2000 + day / 365)) ∨ (2000 + day / 365 = y + 1 ∧ day < ny (2000 + day / 365)) := by
  have a := h.inYear
  have b := ny_bd y h.y0 (by have := h.y1; omega)
  have c := ny_bd (y + 1) (by have := h.y0; omega) (by have := h.y1; omega)
  have hg : 2000 + day / 365 = y ∨ 2000 + day / 365 = y + 1 := by omega
  rcases hg with e | e
  · exact Or.inl ⟨e, by rw [e]; omega⟩
  · exact Or.inr ⟨e, by rw [e]; omega⟩
theorem Civ.year_lt {day y m d k : Int} (h : Civ day y m d) (h0 : k < y) : 365 + lp k ≤ day - ny k := by
  have a := h.inYear
  have b := ny_mono (k + 1) y (by omega)
  rw [ny_succ] at b
  omega
theorem Civ.year_at {day y m d : Int} (h : Civ day y m d) : day - ny y < 365 + lp y := by
  have a := h.inYear
  rw [ny_succ] at a
  omega
theorem Civ.month_lt {day y m d k : Int} (h : Civ day y m d) (h1 : 1 ≤ k) (h0 : k < m) : lenI y k ≤ day - ny y - cum y k := by
  have a := h.inYear
  have b := cum_mono y (k + 1) m (by omega)
  rw [len_in y k h1 (by have := h.m1; omega)]
  omega
theorem Civ.month_at {day y m d : Int} (h : Civ day y m d) : day - ny y - cum y m < lenI y m := by
  have a := h.inYear
  rw [len_in y m h.m0 h.m1]
  omega
theorem civ_of (y m d : Int) (h : dateB y m d = true) : Civ (ny y + cum y m + d - 1) y m d := by
  have h2 : 2000 ≤ y ∧ y ≤ 2199 ∧ 1 ≤ d ∧ d ≤ lenI y m := by simpa [dateB] using h
  have hm : 1 ≤ m ∧ m ≤ 12 := by
    by_cases c : 1 ≤ m ∧ m ≤ 12
    · exact c
    · rw [len_out y m (by omega)] at h2; omega
  exact ⟨h2.1, h2.2.1, hm.1, hm.2, h2.2.2.1, h2.2.2.2, rfl⟩
theorem Civ.date {day y m d : Int} (h : Civ day y m d) : dateB y m d = true := by
  have a := h.y0; have b := h.y1; have c := h.d0; have e := h.d1
  simp [dateB]; omega
theorem Civ.day {day y m d : Int} (h : Civ day y m d) : dayV y m d = day ∧ dayE y m d = 0 := by
  unfold dayV dayE
  rw [if_pos h.date, if_pos h.date]
  exact ⟨h.sum, rfl⟩
theorem date_no (y m d : Int) (h : dateB y m d = false) : dayV y m d = 0 ∧ dayE y m d = 1 := by
  unfold dayV dayE; rw [h]; exact ⟨rfl, rfl⟩
theorem date_yes (y m d : Int) (h : dateB y m d = true) : dayV y m d = ny y + cum y m + d - 1 ∧ dayE y m d = 0 := by
  unfold dayV dayE; rw [h]; exact ⟨rfl, rfl⟩
theorem date_iff (y m d : Int) : dateB y m d = true ↔ (2000 ≤ y ∧ y ≤ 2199 ∧ 1 ≤ d ∧ d ≤ lenI y m) := by simp [dateB]
end Go.Proofs.YtnhealjngkhinaaDoor.WM
