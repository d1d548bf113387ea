/-
  Merged: The table of the types of an operator, plain: what it gives for operands is the type of the result. Variables by their index, plain.
-/
import Derived.Test.YthanoilbcdhbkaaGreatDoorQF
namespace Go.Proofs.YthanoilbcdhbkaaGreatDoor.YM
open Go Go.Lib WM TM EM
abbrev K3 := Int × Int × Int
def tabL (o : Int) : List (K3 × Int) :=
 if o = 5 then [((1, 1, 0), 1), ((2, 2, 0), 2), ((3, 3, 0), 3), ((4, 1, 0), 4)]
 else if o = 6 then [((1, 1, 0), 1), ((2, 2, 0), 2), ((3, 3, 0), 3), ((4, 1, 0), 4), ((4, 4, 0), 1)]
 else if o = 7 then [((1, 1, 0), 1), ((1, 2, 0), 2), ((2, 1, 0), 2), ((1, 3, 0), 3), ((3, 1, 0), 3), ((2, 3, 0), 2), ((3, 2, 0), 2)]
 else if o = 8 then [((1, 1, 0), 1), ((2, 1, 0), 2), ((3, 1, 0), 3), ((2, 2, 0), 1)]
 else if o = 9 then [((1, 0, 0), 1), ((2, 0, 0), 2), ((3, 0, 0), 3)]
 else if o = 10 ∨ o = 11 then [((1, 1, 0), 5), ((2, 2, 0), 5), ((3, 3, 0), 5), ((4, 4, 0), 5), ((5, 5, 0), 5)]
 else if o = 12 ∨ o = 13 then [((1, 1, 0), 5), ((2, 2, 0), 5), ((3, 3, 0), 5), ((4, 4, 0), 5)]
 else if o = 14 ∨ o = 15 then [((5, 5, 0), 5)]
 else if o = 16 then [((5, 0, 0), 5)]
 else if o = 17 ∨ o = 18 then [((1, 1, 0), 1), ((2, 2, 0), 2), ((3, 3, 0), 3), ((4, 4, 0), 4)]
 else if o = 19 then [((5, 1, 1), 1), ((5, 2, 2), 2), ((5, 3, 3), 3), ((5, 4, 4), 4), ((5, 5, 5), 5)]
 else []
def pad : List Int → K3
 | [] => (0, 0, 0)
 | [a] => (a, 0, 0)
 | [a, b] => (a, b, 0)
 | a :: b :: c :: _ => (a, b, c)
def tabAt (o : Int) (k : K3) : Option Int := ((tabL o).find? fun p => decide (p.1 = k)).map (·.2)
def rng : List Int := [1, 2, 3, 4, 5]
def ops15 : List Int := [5, 6, 7, 8, 9, 10, 11, 12, 13, 14, 15, 16, 17, 18, 19]
theorem tab0 : (ops15.all fun o => decide (tabAt o (pad []) = rawO o [])) = true := by decide +kernel
theorem tab1 : (ops15.all fun o => rng.all fun a => decide (tabAt o (pad [a]) = rawO o [a])) = true := by decide +kernel
theorem tab2 : (ops15.all fun o => rng.all fun a => rng.all fun b => decide (tabAt o (pad [a, b]) = rawO o [a, b])) = true := by decide +kernel
theorem tab3 : (ops15.all fun o => rng.all fun a => rng.all fun b => rng.all fun c => decide (tabAt o (pad [a, b, c]) = rawO o [a, b, c])) = true := by decide +kernel
theorem mem_rng {a : Int} (h : good a = true) : a ∈ rng := by
 rw [good_iff] at h
 have : a = 1 ∨ a = 2 ∨ a = 3 ∨ a = 4 ∨ a = 5 := by omega
 unfold rng
 simp only [List.mem_cons, List.not_mem_nil, or_false]
 exact this
theorem mem_ops {o : Int} (h : 5 ≤ o ∧ o ≤ 19) : o ∈ ops15 := by
 have : o = 5 ∨ o = 6 ∨ o = 7 ∨ o = 8 ∨ o = 9 ∨ o = 10 ∨ o = 11 ∨ o = 12 ∨ o = 13 ∨ o = 14 ∨ o = 15 ∨ o = 16 ∨ o = 17 ∨ o = 18 ∨ o = 19 := by omega
 unfold ops15
 simp only [List.mem_cons, List.not_mem_nil, or_false]
 exact this
theorem tab_none {o : Int} (h : ¬ (5 ≤ o ∧ o ≤ 19)) : tabL o = [] := by
 unfold tabL
 rw [if_neg (by omega), if_neg (by omega), if_neg (by omega), if_neg (by omega), if_neg (by omega), if_neg (by omega), if_neg (by omega), if_neg (by omega), if_neg (by omega), if_neg (by omega), if_neg (by omega)]
theorem raw_none {o : Int} (h : ¬ (5 ≤ o ∧ o ≤ 19)) (l : List Int) : rawO o l = none := by
 unfold rawO
 split
 ·rw [if_neg (by omega), if_neg (by omega)]
 ·unfold twoO
  rw [if_neg (by omega), if_neg (by omega), if_neg (by omega), if_neg (by omega), if_neg (by omega), if_neg (by omega), if_neg (by omega), if_neg (by omega)]
 ·rw [if_neg (by omega)]
 ·rfl
theorem tab_res (o : Int) (l : List Int) (h3 : l.length ≤ 3) (hg : l.all good = true) : tabAt o (pad l) = resO o l := by
 unfold resO
 rw [if_pos hg]
 by_cases ho : 5 ≤ o ∧ o ≤ 19
 ·have hm := mem_ops ho
  match l, h3, hg with
  | [], _, _ => exact of_decide_eq_true (List.all_eq_true.1 tab0 o hm)
  | [a], _, hg =>
   simp only [List.all_cons, List.all_nil, Bool.and_true] at hg
   exact of_decide_eq_true (List.all_eq_true.1 (List.all_eq_true.1 tab1 o hm) a (mem_rng hg))
  | [a, b], _, hg =>
   simp only [List.all_cons, List.all_nil, Bool.and_true, Bool.and_eq_true] at hg
   exact of_decide_eq_true (List.all_eq_true.1 (List.all_eq_true.1 (List.all_eq_true.1 tab2 o hm) a (mem_rng hg.1)) b (mem_rng hg.2))
  | [a, b, c], _, hg =>
   simp only [List.all_cons, List.all_nil, Bool.and_true, Bool.and_eq_true] at hg
   exact of_decide_eq_true (List.all_eq_true.1 (List.all_eq_true.1 (List.all_eq_true.1 (List.all_eq_true.1 tab3 o hm) a (mem_rng hg.1)) b (mem_rng hg.2.1)) c (mem_rng hg.2.2))
  | _ :: _ :: _ :: _ :: _, h3, _ => exact absurd h3 (by simp)
 ·rw [raw_none ho]
  unfold tabAt
  rw [tab_none ho]
  rfl
theorem res_long (o : Int) (l : List Int) (h : 3 < l.length) : resO o l = none := by
 unfold resO
 split
 ·unfold rawO
  split
  ·simp at h
  ·simp at h
  ·simp at h
  ·rfl
 ·rfl
theorem res_bad (o : Int) (l : List Int) (h : l.all good = false) : resO o l = none := by
 unfold resO
 rw [h]
 rfl
end Go.Proofs.YthanoilbcdhbkaaGreatDoor.YM

namespace Go.Proofs.YthanoilbcdhbkaaGreatDoor.YM
open Go Go.Lib WM TM EM
def V0 : Vr := ([], 0)
def nth (vs : List Vr) (s : List UInt8) : Nat := vs.findIdx fun v => decide (v.1 = s)
def fixI (vs : List Vr) (s : List UInt8) : Int := if nth vs s < vs.length then ((nth vs s : Nat) : Int) else -1
theorem nth_cons (v : Vr) (vs : List Vr) (s : List UInt8) : nth (v :: vs) s = if v.1 = s then 0 else nth vs s + 1 := by
 unfold nth
 rw [List.findIdx_cons]
 by_cases h : v.1 = s
 ·rw [if_pos h, decide_eq_true h]; rfl
 ·rw [if_neg h, decide_eq_false h]; rfl
theorem nth_hit : ∀ (vs : List Vr) (s : List UInt8) (k : Nat), k < vs.length → (∀ j, j < k → (vs.getD j V0).1 ≠ s) → (vs.getD k V0).1 = s → nth vs s = k := by
 intro vs
 induction vs with
 | nil => intro s k hk; exact absurd hk (Nat.not_lt_zero _)
 | cons v vs ih =>
  intro s k hk h1 h2
  rw [nth_cons]
  cases k with
  | zero => rw [if_pos (show v.1 = s from h2)]
  | succ k =>
   have h0 : v.1 ≠ s := h1 0 (by omega)
   rw [if_neg h0, ih s k (Nat.lt_of_succ_lt_succ hk) (fun j hj => h1 (j + 1) (by omega)) h2]
theorem nth_miss : ∀ (vs : List Vr) (s : List UInt8), (∀ j, j < vs.length → (vs.getD j V0).1 ≠ s) → nth vs s = vs.length := by
 intro vs
 induction vs with
 | nil => intro s _; rfl
 | cons v vs ih =>
  intro s h1
  have h0 : v.1 ≠ s := h1 0 (by simp)
  rw [nth_cons, if_neg h0, ih s (fun j hj => h1 (j + 1) (by simp; omega))]
  rfl
theorem fix_hit {vs : List Vr} {s : List UInt8} {k : Nat} (hk : k < vs.length) (h1 : ∀ j, j < k → (vs.getD j V0).1 ≠ s) (h2 : (vs.getD k V0).1 = s) : fixI vs s = k := by
 unfold fixI
 rw [nth_hit vs s k hk h1 h2, if_pos hk]
theorem fix_miss {vs : List Vr} {s : List UInt8} (h1 : ∀ j, j < vs.length → (vs.getD j V0).1 ≠ s) : fixI vs s = -1 := by
 unfold fixI
 rw [nth_miss vs s h1, if_neg (Nat.lt_irrefl _)]
theorem look_cons (v : Vr) (vs : List Vr) (s : List UInt8) : look (v :: vs) s = if v.1 = s then (if good v.2 then (v.2, 0) else (0, 3)) else look vs s := by
 unfold look
 rw [List.find?_cons]
 by_cases h : v.1 = s
 ·rw [if_pos h, decide_eq_true h]
 ·rw [if_neg h, decide_eq_false h]
theorem look_hit : ∀ (vs : List Vr) (s : List UInt8) (k : Nat), k < vs.length → (∀ j, j < k → (vs.getD j V0).1 ≠ s) → (vs.getD k V0).1 = s →
  look vs s = if good (vs.getD k V0).2 then ((vs.getD k V0).2, 0) else (0, 3) := by
 intro vs
 induction vs with
 | nil => intro s k hk; exact absurd hk (Nat.not_lt_zero _)
 | cons v vs ih =>
  intro s k hk h1 h2
  rw [look_cons]
  cases k with
  | zero => rw [if_pos (show v.1 = s from h2)]; rfl
  | succ k =>
   have h0 : v.1 ≠ s := h1 0 (by omega)
   rw [if_neg h0, ih s k (Nat.lt_of_succ_lt_succ hk) (fun j hj => h1 (j + 1) (by omega)) h2]
   rfl
theorem look_miss : ∀ (vs : List Vr) (s : List UInt8), (∀ j, j < vs.length → (vs.getD j V0).1 ≠ s) → look vs s = (0, 4) := by
 intro vs
 induction vs with
 | nil => intro s _; rfl
 | cons v vs ih =>
  intro s h1
  have h0 : v.1 ≠ s := h1 0 (by simp)
  rw [look_cons, if_neg h0, ih s (fun j hj => h1 (j + 1) (by simp; omega))]
theorem nth_cases (vs : List Vr) (s : List UInt8) : (∃ k, k < vs.length ∧ (∀ j, j < k → (vs.getD j V0).1 ≠ s) ∧ (vs.getD k V0).1 = s) ∨ (∀ j, j < vs.length → (vs.getD j V0).1 ≠ s) := by
 induction vs with
 | nil => exact Or.inr fun j hj => absurd hj (Nat.not_lt_zero _)
 | cons v vs ih =>
  by_cases h : v.1 = s
  ·exact Or.inl ⟨0, by simp, fun j hj => absurd hj (Nat.not_lt_zero _), h⟩
  ·rcases ih with ⟨k, h1, h2, h3⟩ | h1
   ·refine Or.inl ⟨k + 1, by simp; omega, ?_, h3⟩
    intro j hj
    cases j with
    | zero => exact h
    | succ j => exact h2 j (by omega)
   ·refine Or.inr ?_
    intro j hj
    cases j with
    | zero => exact h
    | succ j => exact h1 j (by simp at hj; omega)
theorem contains_iff (vs : List Vr) (s : List UInt8) : (vs.map Prod.fst).contains s = true ↔ ∃ k, k < vs.length ∧ (vs.getD k V0).1 = s := by
 rw [List.contains_iff_mem, List.mem_map]
 constructor
 ·rintro ⟨v, hv, e⟩
  obtain ⟨k, hk, rfl⟩ := List.getElem_of_mem hv
  exact ⟨k, hk, by simp [List.getD, hk, e]⟩
 ·rintro ⟨k, hk, e⟩
  refine ⟨vs[k], List.getElem_mem hk, ?_⟩
  simp [List.getD, hk] at e
  exact e
theorem fix_neg (vs : List Vr) (s : List UInt8) : (fixI vs s < 0 ↔ (vs.map Prod.fst).contains s = false) ∧ (0 ≤ fixI vs s ∨ fixI vs s = -1) := by
 rcases nth_cases vs s with ⟨k, h1, h2, h3⟩ | h1
 ·rw [fix_hit h1 h2 h3, (contains_iff vs s).2 ⟨k, h1, h3⟩]
  exact ⟨⟨fun h => absurd h (by omega), fun h => absurd h (by decide)⟩, Or.inl (by omega)⟩
 ·rw [fix_miss h1]
  refine ⟨⟨fun _ => ?_, fun _ => by decide⟩, Or.inr rfl⟩
  cases hc : (vs.map Prod.fst).contains s with
  | false => rfl
  | true =>
   obtain ⟨k, hk, e⟩ := (contains_iff vs s).1 hc
   exact absurd e (h1 k hk)
/-! ### The list of variables, one behind the other -/
theorem vs_step (l : List Vr) (k : Nat) (h : k < l.length) : vsL (l.take k) (l.drop k) =
  if varOk (l.getD k V0).1 = false then 4 else if ((l.take k).map Prod.fst).contains (l.getD k V0).1 then 12 else if good (l.getD k V0).2 = false then 3 else vsL (l.take (k + 1)) (l.drop (k + 1)) := by
 have e1 : l.drop k = l.getD k V0 :: l.drop (k + 1) := by
  rw [List.drop_eq_getElem_cons h]; simp [List.getD, h]
 have e2 : l.take (k + 1) = l.take k ++ [l.getD k V0] := by
  rw [List.take_succ_eq_append_getElem h]; simp [List.getD, h]
 conv => lhs; rw [e1, vsL]
 rw [e2]
theorem vs_end (l : List Vr) (k : Nat) (h : l.length ≤ k) : vsL (l.take k) (l.drop k) = 0 := by
 rw [List.drop_eq_nil_of_le h, vsL]
theorem vs_start (l : List Vr) (h : l.length ≤ 64) : vsE l = vsL (l.take 0) (l.drop 0) := by
 unfold vsE
 rw [if_neg (by omega)]
 rfl
end Go.Proofs.YthanoilbcdhbkaaGreatDoor.YM
