/-
  Dates, plain: a text is read as the date that it says, and written again; the next day; months.
-/
import Derived.Test.YtipoccelkgijgaaDoorDH
namespace Go.Proofs.YtipoccelkgijgaaDoor
open Go Go.RowKit Go.Lib WM

theorem pad_of (f : List UInt8) (d : Nat) (h : f.length = d) (ha : allDig f = true) : pad d (dval f) = f := (pad_dval [] d f h ha).1
theorem dval_of (d n : Nat) (h : n < 10 ^ d) : dval (pad d n) = n := by
  have e := dval_pad d n
  rw [Nat.div_eq_of_lt h, dval_app, dec_zero, show dval [48] = 0 from rfl, Nat.zero_mul, Nat.zero_add] at e
  exact e
theorem text_len (y m d : Nat) : (textL y m d).length = 10 := by
  unfold textL
  simp [pad_length]
theorem text_parts (y m d : Nat) : (textL y m d).take 4 = pad 4 y ∧ ((textL y m d).take 7).drop 5 = pad 2 m ∧ (textL y m d).drop 8 = pad 2 d ∧ (textL y m d).getD 4 0 = 45 ∧ (textL y m d).getD 7 0 = 45 := by
  unfold textL
  simp [pad]
theorem cut_join (l : List UInt8) (h : shB l = true) : l.take 4 ++ 45 :: ((l.take 7).drop 5 ++ 45 :: l.drop 8) = l := by
  unfold shB at h
  rw [Bool.and_eq_true, decide_eq_true_eq] at h
  obtain ⟨hl, hk⟩ := h
  unfold shK at hk
  rw [List.all_eq_true] at hk
  have g : ∀ i, i < 10 → okAt i (l.getD i 0) = true := fun i hi => hk i (List.mem_range.2 hi)
  match l, hl with
  | [a, b, c, d, e, f, g', h', i, j], _ =>
    have g4 := g 4 (by omega); have g7 := g 7 (by omega)
    simp [okAt] at g4 g7
    simp [g4, g7]
theorem text_read (l : List UInt8) (h : shB l = true) : textL (dval (l.take 4)) (dval ((l.take 7).drop 5)) (dval (l.drop 8)) = l := by
  obtain ⟨a1, a2, a3, hl⟩ := shK_dig _ h
  unfold textL
  rw [pad_of _ 4 (by rw [List.length_take]; omega) a1, pad_of _ 2 (by rw [List.length_drop, List.length_take]; omega) a2, pad_of _ 2 (by rw [List.length_drop]; omega) a3]
  exact cut_join l h
theorem text_shape (y m d : Nat) : shB (textL y m d) = true := by
  obtain ⟨e1, e2, e3, e4, e5⟩ := text_parts y m d
  have hl := text_len y m d
  have a1 := allDig_pad 4 y
  have a2 := allDig_pad 2 m
  have a3 := allDig_pad 2 d
  rw [← e1] at a1; rw [← e2] at a2; rw [← e3] at a3
  generalize textL y m d = l at *
  match l, hl with
  | [a, b, c, d, e, f, g', h', i, j], _ =>
    simp [allDig] at a1 a2 a3 e4 e5
    obtain ⟨p0, p1, p2, p3⟩ := a1
    obtain ⟨p5, p6⟩ := a2
    obtain ⟨p8, p9⟩ := a3
    subst e4 e5
    unfold shB shK
    rw [List.all_eq_true.2]
    · rfl
    · intro k hk
      rw [List.mem_range] at hk
      match k, hk with
      | 0, _ => simpa [okAt] using p0
      | 1, _ => simpa [okAt] using p1
      | 2, _ => simpa [okAt] using p2
      | 3, _ => simpa [okAt] using p3
      | 4, _ => simp [okAt]
      | 5, _ => simpa [okAt] using p5
      | 6, _ => simpa [okAt] using p6
      | 7, _ => simp [okAt]
      | 8, _ => simpa [okAt] using p8
      | 9, _ => simpa [okAt] using p9
theorem ps_text (day : Int) (y m d : Nat) (h : Civ day y m d) : psV (textL y m d) = day ∧ psE (textL y m d) = 0 := by
  obtain ⟨e1, e2, e3, _, _⟩ := text_parts y m d
  have y1 := h.y1; have m1 := h.m1
  have d31 : (d : Int) ≤ 31 := by have := h.d1; have := len_bd0 y m; omega
  unfold psV psE
  rw [text_shape, if_pos rfl, if_pos rfl, e1, e2, e3, dval_of 4 y (by omega), dval_of 2 m (by omega), dval_of 2 d (by omega)]
  exact h.day
/-- What a text that is accepted says. -/
theorem ps_ok (l : List UInt8) (h : psE l = 0) : ∃ y m d : Nat, Civ (psV l) y m d ∧ textL y m d = l := by
  cases hs : shB l
  · unfold psE at h; rw [hs, if_neg (by decide)] at h; omega
  · refine ⟨dval (l.take 4), dval ((l.take 7).drop 5), dval (l.drop 8), ?_, text_read l hs⟩
    unfold psE at h; unfold psV
    rw [hs, if_pos rfl] at h ⊢
    cases hd : dateB (dval (l.take 4)) (dval ((l.take 7).drop 5)) (dval (l.drop 8))
    · rw [(date_no _ _ _ hd).2] at h; omega
    · rw [(date_yes _ _ _ hd).1]
      exact civ_of _ _ _ hd
theorem civ_nat (day y m d : Int) (h : Civ day y m d) : ∃ a b c : Nat, y = a ∧ m = b ∧ d = c := ⟨y.toNat, m.toNat, d.toNat, by have := h.y0; omega, by have := h.m0; omega, by have := h.d0; omega⟩

/- The next day. -/
theorem next_in {day y m d : Int} (h : Civ day y m d) (c : d < lenI y m) : Civ (day + 1) y m (d + 1) :=
  ⟨h.y0, h.y1, h.m0, h.m1, by have := h.d0; omega, by omega, by have := h.sum; omega⟩
theorem next_month {day y m d : Int} (h : Civ day y m d) (c : d = lenI y m) (hm : m < 12) : Civ (day + 1) y (m + 1) 1 := by
  have a := len_in y m h.m0 h.m1
  have b := len_bd y (m + 1) (by have := h.m0; omega) (by omega)
  exact ⟨h.y0, h.y1, by have := h.m0; omega, by omega, by omega, by omega, by have := h.sum; omega⟩
theorem next_year {day y m d : Int} (h : Civ day y m d) (c : d = lenI y m) (hm : m = 12) (hl : day < 73048) : Civ (day + 1) (y + 1) 1 1 := by
  subst hm
  have a := len_in y 12 h.m0 h.m1
  rw [show (12 : Int) + 1 = 13 by omega, cum_13] at a
  have b := len_bd (y + 1) 1 (by omega) (by omega)
  have s := ny_succ y
  have e := h.sum
  have y1 : y + 1 ≤ 2199 := by
    by_cases k : y + 1 ≤ 2199
    · exact k
    · have g : y = 2199 := by have := h.y1; omega
      subst g
      have n : ny (2199 + 1) = 73049 := by decide
      omega
  exact ⟨by have := h.y0; omega, y1, by omega, by omega, by omega, by omega, by rw [cum_one]; omega⟩
end Go.Proofs.YtipoccelkgijgaaDoor
