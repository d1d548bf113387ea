/-
  The document's own join, plain: the numbers found so far, and the least of those that are left.
-/
import Derived.Test.YtgljaopnehdgdaaDoorCJ
namespace Go.Proofs.YtgljaopnehdgdaaDoor.WM
open Go Go.RowKit Go.Lib

def lastI (o : List Int) : Int := o.getD (o.length - 1) 0
/-- A number that is still to come. -/
def GtL (o : List Int) (x : Int) : Prop := o.length ≠ 0 → lastI o < x
structure JO (zs o : List Int) : Prop where
  pw : o.Pairwise (· < ·)
  sub : ∀ x ∈ o, x ∈ zs
  cmp : ∀ x ∈ zs, ¬ GtL o x → x ∈ o
theorem JO.nil (zs : List Int) : JO zs [] := ⟨List.Pairwise.nil, fun _ h => (by cases h), fun _ _ h => absurd (fun k => absurd rfl k) h⟩
theorem le_last {o : List Int} (h : o.Pairwise (· < ·)) {y : Int} (hy : y ∈ o) : o.length ≠ 0 ∧ y ≤ lastI o := by
  obtain ⟨i, hi, e⟩ := List.getElem_of_mem hy
  refine ⟨by omega, ?_⟩
  have hl : lastI o = o[o.length - 1]'(by omega) := by unfold lastI; simp [List.getD, show o.length - 1 < o.length by omega]
  rw [hl, ← e]
  by_cases c : i = o.length - 1
  · subst c; exact Int.le_refl _
  · rw [List.pairwise_iff_getElem] at h
    have := h i (o.length - 1) hi (by omega) (by omega)
    omega
theorem JO.snoc {zs o : List Int} (h : JO zs o) {x : Int} (hx : x ∈ zs) (hg : GtL o x) (hmin : ∀ z ∈ zs, GtL o z → x ≤ z) : JO zs (o ++ [x]) := by
  have hl : lastI (o ++ [x]) = x := by unfold lastI; simp [List.getD]
  refine ⟨?_, ?_, ?_⟩
  · rw [List.pairwise_append]
    refine ⟨h.pw, by simp, fun y hy z hz => ?_⟩
    rw [List.mem_singleton] at hz
    subst hz
    have := le_last h.pw hy
    have := hg this.1
    omega
  · intro y hy
    rw [List.mem_append, List.mem_singleton] at hy
    rcases hy with e | e
    · exact h.sub y e
    · subst e; exact hx
  · intro y hy hn
    rw [List.mem_append, List.mem_singleton]
    by_cases e : GtL o y
    · have h1 := hmin y hy e
      right
      have h2 : ¬ x < y := fun c => hn (fun _ => by rw [hl]; exact c)
      omega
    · exact Or.inl (h.cmp y hy e)
theorem JO.stop {zs o : List Int} (h : JO zs o) (hn : ∀ z ∈ zs, ¬ GtL o z) : o = normI zs :=
  norm_of zs o h.pw (fun x => ⟨h.sub x, fun hx => h.cmp x hx (hn x hx)⟩)
theorem JO.full {zs o : List Int} (h : JO zs o) (hl : zs.length ≤ o.length) : o = normI zs :=
  norm_of zs o h.pw (fun x => ⟨h.sub x, fun hx => all_in o zs h.pw h.sub hl x hx⟩)
/-- The place of the least of the first k numbers that are still to come, or -1. -/
def Inn (zs o : List Int) (k : Nat) (A : Int) : Prop :=
  (A = -1 ∧ ∀ j, j < k → ¬ GtL o (zs.getD j 0)) ∨ ∃ a : Nat, A = a ∧ a < k ∧ GtL o (zs.getD a 0) ∧ ∀ j, j < k → GtL o (zs.getD j 0) → zs.getD a 0 ≤ zs.getD j 0
theorem Inn.start (zs o : List Int) : Inn zs o 0 (-1) := Or.inl ⟨rfl, fun _ h => absurd h (Nat.not_lt_zero _)⟩
theorem Inn.skip {zs o : List Int} {k : Nat} {A : Int} (h : Inn zs o k A) (hn : ¬ GtL o (zs.getD k 0)) : Inn zs o (k + 1) A := by
  rcases h with ⟨e, h⟩ | ⟨a, e, h1, h2, h3⟩
  · refine Or.inl ⟨e, fun j hj => ?_⟩
    by_cases c : j = k
    · subst c; exact hn
    · exact h j (by omega)
  · refine Or.inr ⟨a, e, by omega, h2, fun j hj hg => ?_⟩
    by_cases c : j = k
    · subst c; exact absurd hg hn
    · exact h3 j (by omega) hg
theorem Inn.first {zs o : List Int} {k : Nat} (h : Inn zs o k (-1)) (hg : GtL o (zs.getD k 0)) : Inn zs o (k + 1) (k : Int) := by
  rcases h with ⟨_, h⟩ | ⟨a, e, _⟩
  · refine Or.inr ⟨k, rfl, by omega, hg, fun j hj hj2 => ?_⟩
    by_cases c : j = k
    · subst c; exact Int.le_refl _
    · exact absurd hj2 (h j (by omega))
  · omega
theorem Inn.less {zs o : List Int} {k a : Nat} (h : Inn zs o k (a : Int)) (hg : GtL o (zs.getD k 0)) (hl : zs.getD k 0 < zs.getD a 0) : Inn zs o (k + 1) (k : Int) := by
  rcases h with ⟨e, _⟩ | ⟨a', e, _, _, h3⟩
  · omega
  · have : a' = a := by omega
    subst this
    refine Or.inr ⟨k, rfl, by omega, hg, fun j hj hj2 => ?_⟩
    by_cases c : j = k
    · subst c; exact Int.le_refl _
    · have := h3 j (by omega) hj2; omega
theorem Inn.more {zs o : List Int} {k a : Nat} (h : Inn zs o k (a : Int)) (hl : ¬ zs.getD k 0 < zs.getD a 0) : Inn zs o (k + 1) (a : Int) := by
  rcases h with ⟨e, _⟩ | ⟨a', e, h1, h2, h3⟩
  · omega
  · have : a' = a := by omega
    subst this
    refine Or.inr ⟨a', rfl, by omega, h2, fun j hj hj2 => ?_⟩
    by_cases c : j = k
    · subst c; omega
    · exact h3 j (by omega) hj2
theorem Inn.cases {zs o : List Int} {k : Nat} {A : Int} (h : Inn zs o k A) : A = -1 ∨ ∃ a : Nat, A = a ∧ a < k := by
  rcases h with ⟨e, _⟩ | ⟨a, e, h1, _⟩
  · exact Or.inl e
  · exact Or.inr ⟨a, e, h1⟩
theorem getD_mem {zs : List Int} {j : Nat} (h : j < zs.length) : zs.getD j 0 ∈ zs := by
  have : zs.getD j 0 = zs[j] := by simp [List.getD, h]
  rw [this]; exact List.getElem_mem _
theorem mem_getD {zs : List Int} {x : Int} (h : x ∈ zs) : ∃ j, j < zs.length ∧ zs.getD j 0 = x := by
  obtain ⟨i, hi, e⟩ := List.getElem_of_mem h
  exact ⟨i, hi, by simp [List.getD, hi, e]⟩
theorem JO.none {zs o : List Int} (h : JO zs o) (hi : Inn zs o zs.length (-1)) : o = normI zs := by
  rcases hi with ⟨_, hi⟩ | ⟨a, e, _⟩
  · refine h.stop (fun z hz => ?_)
    obtain ⟨j, hj, rfl⟩ := mem_getD hz
    exact hi j hj
  · omega
theorem JO.next {zs o : List Int} (h : JO zs o) {a : Nat} (hi : Inn zs o zs.length (a : Int)) : JO zs (o ++ [zs.getD a 0]) := by
  rcases hi with ⟨e, _⟩ | ⟨a', e, h1, h2, h3⟩
  · omega
  · have : a' = a := by omega
    subst this
    refine h.snoc (getD_mem h1) h2 (fun z hz hg => ?_)
    obtain ⟨j, hj, rfl⟩ := mem_getD hz
    exact h3 j hj hg
end Go.Proofs.YtgljaopnehdgdaaDoor.WM
