/-
  Choosing the greatest, one after the other, is the stable order's front: plain.
-/
import Derived.Test.YtjhfbnndapopgaaDoorSB
namespace Go.Proofs.YtjhfbnndapopgaaDoor
open Go Go.RowKit Go.Sort WM

/-- The remainders, those that were chosen struck out. -/
def cutL (l qs : List Int) : List Int := qs.foldl (fun r p => r.set p.toNat (-1)) l
theorem cutL_snoc (l qs : List Int) (p : Int) : cutL l (qs ++ [p]) = (cutL l qs).set p.toNat (-1) := by simp [cutL]
theorem cutL_length (qs : List Int) : ∀ l : List Int, (cutL l qs).length = l.length := by
  induction qs with
  | nil => intro l; rfl
  | cons p qs ih => intro l; show (cutL (l.set p.toNat (-1)) qs).length = _; rw [ih, List.length_set]
theorem cutL_low (M : Int) (qs : List Int) : ∀ l : List Int, (∀ i : Nat, -1 ≤ l.getD i 0 ∧ l.getD i 0 ≤ M) → (0 ≤ M) → ∀ i : Nat, -1 ≤ (cutL l qs).getD i 0 ∧ (cutL l qs).getD i 0 ≤ M := by
  induction qs with
  | nil => intro l h _; exact h
  | cons p qs ih =>
    intro l h hM
    show ∀ i : Nat, -1 ≤ (cutL (l.set p.toNat (-1)) qs).getD i 0 ∧ (cutL (l.set p.toNat (-1)) qs).getD i 0 ≤ M
    refine ih _ (fun i => ?_) hM
    have hi := h i
    simp only [List.getD, List.getElem?_set] at *
    split
    · split
      · simp; omega
      · simp; omega
    · exact hi
/-- a is the first place of the greatest of the first k numbers. -/
def Top (r : List Int) (k a : Nat) : Prop := a < k ∧ ∀ i, i < k → r.getD i 0 ≤ r.getD a 0 ∧ (i < a → r.getD i 0 < r.getD a 0)
theorem Top.one (r : List Int) : Top r 1 0 := ⟨by omega, fun i hi => by
  obtain rfl : i = 0 := by omega
  exact ⟨Int.le_refl _, fun h => by omega⟩⟩
theorem Top.gt {r : List Int} {k a : Nat} (h : Top r k a) (g : r.getD a 0 < r.getD k 0) : Top r (k + 1) k := by
  refine ⟨by omega, fun i hi => ?_⟩
  by_cases c : i = k
  · subst c; exact ⟨Int.le_refl _, fun h => by omega⟩
  · have := (h.2 i (by omega)).1
    exact ⟨by omega, fun _ => by omega⟩
theorem Top.le {r : List Int} {k a : Nat} (h : Top r k a) (g : ¬ r.getD a 0 < r.getD k 0) : Top r (k + 1) a := by
  have ha := h.1
  refine ⟨by omega, fun i hi => ?_⟩
  by_cases c : i = k
  · subst c; exact ⟨by omega, fun h => by omega⟩
  · exact h.2 i (by omega)
theorem Top.uniq {r : List Int} {k a b : Nat} (h1 : Top r k a) (h2 : Top r k b) : a = b := by
  have x := h1.2 b h2.1
  have y := h2.2 a h1.1
  have z := h1.1; have z2 := h2.1
  by_cases c : a < b
  · have := y.2 c; omega
  · by_cases d : b < a
    · have := x.2 d; omega
    · omega

section
variable {m : Nat} {R : List Int}
theorem cut_next (j : Nat) (hj : j < m + 1) : cutL R ((psF m R).take (j + 1)) = (cutL R ((psF m R).take j)).set (plF m R j) (-1) := by
  rw [take_snoc_i (psF m R) j (by rw [psF_len]; exact hj), cutL_snoc, psF_at m R j hj, Int.toNat_natCast]
theorem cut_out (hR : R.length = m + 1) (i : Nat) : ∀ j, j ≤ m + 1 → (∀ l, l < j → plF m R l ≠ i) → (cutL R ((psF m R).take j)).getD i 0 = R.getD i 0 := by
  intro j
  induction j with
  | zero => intro _ _; rfl
  | succ j ih =>
    intro hj h
    have S := plF_sd m R
    have hp : plF m R j < m + 1 := (S.own j (by omega) (by omega)).2
    rw [cut_next j (by omega), getD_set _ _ _ _ (by rw [cutL_length, hR]; exact hp), if_neg (fun e => h j (by omega) e.symm)]
    exact ih (by omega) (fun l hl => h l (by omega))
theorem cut_in (hR : R.length = m + 1) (l : Nat) : ∀ j, j ≤ m + 1 → l < j → (cutL R ((psF m R).take j)).getD (plF m R l) 0 = -1 := by
  intro j
  induction j with
  | zero => intro _ h; omega
  | succ j ih =>
    intro hj h
    have S := plF_sd m R
    have hp : plF m R j < m + 1 := (S.own j (by omega) (by omega)).2
    rw [cut_next j (by omega), getD_set _ _ _ _ (by rw [cutL_length, hR]; exact hp)]
    by_cases c : plF m R l = plF m R j
    · rw [if_pos c]
    · rw [if_neg c]
      refine ih (by omega) ?_
      by_cases d : l = j
      · subst d; exact absurd rfl c
      · omega
/-- The next of the stable order is the first of the greatest that is left. -/
theorem top_cut (hR : R.length = m + 1) (hv : ∀ i, i < m + 1 → 0 ≤ R.getD i 0) (j : Nat) (hj : j < m + 1) : Top (cutL R ((psF m R).take j)) (m + 1) (plF m R j) := by
  have S := plF_sd m R
  have own : ∀ l, l < m + 1 → plF m R l < m + 1 := fun l hl => (S.own l (by omega) hl).2
  have ea : (cutL R ((psF m R).take j)).getD (plF m R j) 0 = R.getD (plF m R j) 0 :=
    cut_out hR _ j (by omega) (fun l hl e => by have := S.inj l j (by omega) hj e; omega)
  refine ⟨own j hj, fun i hi => ?_⟩
  rw [ea]
  have h0 := hv _ (own j hj)
  obtain ⟨l, hl, rfl⟩ := inj_onto (m + 1) (plF m R) own S.inj i hi
  by_cases c : l < j
  · rw [cut_in hR l j (by omega) c]
    exact ⟨by omega, fun _ => by omega⟩
  · rw [cut_out hR _ j (by omega) (fun k hk e => by have := S.inj k l (by omega) hl e; omega)]
    by_cases d : l = j
    · subst d; exact ⟨Int.le_refl _, fun h => by omega⟩
    · have b := S.sorted j l (by omega) (by omega) hl
      unfold bef at b
      dsimp only at b
      exact ⟨by omega, fun h => by omega⟩
end
end Go.Proofs.YtjhfbnndapopgaaDoor
