/-
  The table of the types of an operator, plain: what it gives for operands is the type of the result.
-/
import Derived.Test.YtcnnkobiijhegaaDoorYM
namespace Go.Proofs.YtcnnkobiijhegaaDoor.YM
open Go Go.Lib WM TM EM
abbrev K3 := Int × Int × Int
/-- The operands that an operator takes, with noughts behind them, and the type of its result. -/
def tabL (o : Int) : List (K3 × Int) :=
  if o = 5 then [((1, 1, 0), 1), ((2, 2, 0), 2), ((3, 3, 0), 3), ((4, 1, 0), 4)]
  else if o = 6 then [((1, 1, 0), 1), ((2, 2, 0), 2), ((3, 3, 0), 3), ((4, 1, 0), 4), ((4, 4, 0), 1)]
  else if o = 7 then [((1, 1, 0), 1), ((1, 2, 0), 2), ((2, 1, 0), 2), ((1, 3, 0), 3), ((3, 1, 0), 3), ((2, 3, 0), 2), ((3, 2, 0), 2)]
  else if o = 8 then [((1, 1, 0), 1), ((2, 1, 0), 2), ((3, 1, 0), 3), ((2, 2, 0), 1)]
  else if o = 9 then [((1, 0, 0), 1), ((2, 0, 0), 2), ((3, 0, 0), 3)]
  else if o = 10 ∨ o = 11 then [((1, 1, 0), 5), ((2, 2, 0), 5), ((3, 3, 0), 5), ((4, 4, 0), 5), ((5, 5, 0), 5)]
  else if o = 12 ∨ o = 13 then [((1, 1, 0), 5), ((2, 2, 0), 5), ((3, 3, 0), 5), ((4, 4, 0), 5)]
  else if o = 14 ∨ o = 15 then [((5, 5, 0), 5)]
  else if o = 16 then [((5, 0, 0), 5)]
  else if o = 17 ∨ o = 18 then [((1, 1, 0), 1), ((2, 2, 0), 2), ((3, 3, 0), 3), ((4, 4, 0), 4)]
  else if o = 19 then [((5, 1, 1), 1), ((5, 2, 2), 2), ((5, 3, 3), 3), ((5, 4, 4), 4), ((5, 5, 5), 5)]
  else []
def pad : List Int → K3
  | [] => (0, 0, 0)
  | [a] => (a, 0, 0)
  | [a, b] => (a, b, 0)
  | a :: b :: c :: _ => (a, b, c)
def tabAt (o : Int) (k : K3) : Option Int := ((tabL o).find? fun p => decide (p.1 = k)).map (·.2)
def rng : List Int := [1, 2, 3, 4, 5]
def ops15 : List Int := [5, 6, 7, 8, 9, 10, 11, 12, 13, 14, 15, 16, 17, 18, 19]
theorem tab0 : (ops15.all fun o => decide (tabAt o (pad []) = rawO o [])) = true := by decide +kernel
theorem tab1 : (ops15.all fun o => rng.all fun a => decide (tabAt o (pad [a]) = rawO o [a])) = true := by decide +kernel
theorem tab2 : (ops15.all fun o => rng.all fun a => rng.all fun b => decide (tabAt o (pad [a, b]) = rawO o [a, b])) = true := by decide +kernel
theorem tab3 : (ops15.all fun o => rng.all fun a => rng.all fun b => rng.all fun c => decide (tabAt o (pad [a, b, c]) = rawO o [a, b, c])) = true := by decide +kernel
theorem mem_rng {a : Int} (h : good a = true) : a ∈ rng := by
  rw [good_iff] at h
  have : a = 1 ∨ a = 2 ∨ a = 3 ∨ a = 4 ∨ a = 5 := by omega
  unfold rng
  simp only [List.mem_cons, List.not_mem_nil, or_false]
  exact this
theorem mem_ops {o : Int} (h : 5 ≤ o ∧ o ≤ 19) : o ∈ ops15 := by
  have : o = 5 ∨ o = 6 ∨ o = 7 ∨ o = 8 ∨ o = 9 ∨ o = 10 ∨ o = 11 ∨ o = 12 ∨ o = 13 ∨ o = 14 ∨ o = 15 ∨ o = 16 ∨ o = 17 ∨ o = 18 ∨ o = 19 := by omega
  unfold ops15
  simp only [List.mem_cons, List.not_mem_nil, or_false]
  exact this
theorem tab_none {o : Int} (h : ¬ (5 ≤ o ∧ o ≤ 19)) : tabL o = [] := by
  unfold tabL
  rw [if_neg (by omega), if_neg (by omega), if_neg (by omega), if_neg (by omega), if_neg (by omega), if_neg (by omega), if_neg (by omega), if_neg (by omega), if_neg (by omega), if_neg (by omega), if_neg (by omega)]
theorem raw_none {o : Int} (h : ¬ (5 ≤ o ∧ o ≤ 19)) (l : List Int) : rawO o l = none := by
  unfold rawO
  split
  · rw [if_neg (by omega), if_neg (by omega)]
  · unfold twoO
    rw [if_neg (by omega), if_neg (by omega), if_neg (by omega), if_neg (by omega), if_neg (by omega), if_neg (by omega), if_neg (by omega), if_neg (by omega)]
  · rw [if_neg (by omega)]
  · rfl
/-- What the table gives is the type of the result. -/
theorem tab_res (o : Int) (l : List Int) (h3 : l.length ≤ 3) (hg : l.all good = true) : tabAt o (pad l) = resO o l := by
  unfold resO
  rw [if_pos hg]
  by_cases ho : 5 ≤ o ∧ o ≤ 19
  · have hm := mem_ops ho
    match l, h3, hg with
    | [], _, _ => exact of_decide_eq_true (List.all_eq_true.1 tab0 o hm)
    | [a], _, hg =>
      simp only [List.all_cons, List.all_nil, Bool.and_true] at hg
      exact of_decide_eq_true (List.all_eq_true.1 (List.all_eq_true.1 tab1 o hm) a (mem_rng hg))
    | [a, b], _, hg =>
      simp only [List.all_cons, List.all_nil, Bool.and_true, Bool.and_eq_true] at hg
      exact of_decide_eq_true (List.all_eq_true.1 (List.all_eq_true.1 (List.all_eq_true.1 tab2 o hm) a (mem_rng hg.1)) b (mem_rng hg.2))
    | [a, b, c], _, hg =>
      simp only [List.all_cons, List.all_nil, Bool.and_true, Bool.and_eq_true] at hg
      exact of_decide_eq_true (List.all_eq_true.1 (List.all_eq_true.1 (List.all_eq_true.1 (List.all_eq_true.1 tab3 o hm) a (mem_rng hg.1)) b (mem_rng hg.2.1)) c (mem_rng hg.2.2))
    | _ :: _ :: _ :: _ :: _, h3, _ => exact absurd h3 (by simp)
  · rw [raw_none ho]
    unfold tabAt
    rw [tab_none ho]
    rfl
theorem res_long (o : Int) (l : List Int) (h : 3 < l.length) : resO o l = none := by
  unfold resO
  split
  · unfold rawO
    split
    · simp at h
    · simp at h
    · simp at h
    · rfl
  · rfl
theorem res_bad (o : Int) (l : List Int) (h : l.all good = false) : resO o l = none := by
  unfold resO
  rw [h]
  rfl
/-- No operands stand twice. -/
theorem tab_apart : (ops15.all fun o => decide (((tabL o).map Prod.fst).Nodup)) = true := by decide +kernel
end Go.Proofs.YtcnnkobiijhegaaDoor.YM
