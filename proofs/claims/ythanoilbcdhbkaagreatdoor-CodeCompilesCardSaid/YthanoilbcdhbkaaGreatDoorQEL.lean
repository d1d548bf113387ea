/-
  Lists of texts: sorted, each once; equal lists.
-/
import Derived.Test.YthanoilbcdhbkaaGreatDoorQEA
import Derived.Test.YthanoilbcdhbkaaGreatDoorQShelf
import Derived.Lib.SlicesCompact
namespace Go.Proofs.YthanoilbcdhbkaaGreatDoor
open Go Go.RowKit Go.Lib WM TM EM

abbrev Tx := List UInt8
def TxAt (ao : Option Addr) (zs : List Tx) (w : World) : Prop := ∀ i, i < zs.length → ∃ b off, ao = some ⟨b, off, none⟩ ∧ b < w.heap.size ∧ w.cell? ⟨b, off + i, none⟩ = some (.string (str (zs.getD i [])))
theorem TxAt.keep {ao : Option Addr} {zs : List Tx} {w w' : World} (h : TxAt ao zs w) (hb : Below w.heap.size w w') : TxAt ao zs w' := by
 intro i hi
 obtain ⟨b, off, e, hbw, c⟩ := h i hi
 exact ⟨b, off, e, by have := hb.size; omega, keepc hb c⟩
theorem TxAt.nil (ao : Option Addr) (w : World) : TxAt ao [] w := fun _ hi => absurd hi (Nat.not_lt_zero _)
def nmL (l : List Ex) : List Tx := (l.filter fun x => decide (x.op = 4)).map (·.s)
theorem nmL_app (l m : List Ex) : nmL (l ++ m) = nmL l ++ nmL m := by simp [nmL]
theorem nmL_len (l : List Ex) : (nmL l).length ≤ l.length := by
 unfold nmL
 rw [List.length_map]
 exact List.length_filter_le _ _
def NmS (e : Ex) (l : List Tx) : Prop := l.Pairwise (· < ·) ∧ ∀ s, s ∈ l ↔ s ∈ nmL (EM.pre e)
theorem asc_ext : ∀ {l m : List Tx}, l.Pairwise (· < ·) → m.Pairwise (· < ·) → (∀ s, s ∈ l ↔ s ∈ m) → l = m := by
 intro l
 induction l with
 | nil =>
  intro m _ _ h
  cases m with
  | nil => rfl
  | cons y m => exact absurd ((h y).2 (by simp)) (by simp)
 | cons x l ih =>
  intro m hl hm h
  cases m with
  | nil => exact absurd ((h x).1 (by simp)) (by simp)
  | cons y m =>
   rw [List.pairwise_cons] at hl hm
   have hxy : x = y := by
    have h1 := (h x).1 (by simp)
    have h2 := (h y).2 (by simp)
    rcases List.mem_cons.1 h1 with e | h1
    ·exact e
    ·rcases List.mem_cons.1 h2 with e | h2
     ·exact e.symm
     ·exact absurd (hl.1 y h2) (fun k => List.lt_asymm k (hm.1 x h1))
   subst hxy
   congr 1
   refine ih hl.2 hm.2 fun s => ?_
   constructor
   ·intro hs
    rcases List.mem_cons.1 ((h s).1 (by simp [hs])) with e | k
    ·subst e; exact absurd (hl.1 s hs) (List.lt_irrefl s)
    ·exact k
   ·intro hs
    rcases List.mem_cons.1 ((h s).2 (by simp [hs])) with e | k
    ·subst e; exact absurd (hm.1 s hs) (List.lt_irrefl s)
    ·exact k
theorem NmS.eq {e : Ex} {l m : List Tx} (h : NmS e l) (k : NmS e m) : l = m := asc_ext h.1 k.1 fun s => (h.2 s).trans (k.2 s).symm
theorem lt_of_ne {a b : Tx} (h : a ≤ b) (k : a ≠ b) : a < b := by
 rcases List.le_iff_lt_or_eq.1 h with h | h
 ·exact h
 ·exact absurd h k
def normT (l : List Tx) : List Tx := Lib.compact (l.mergeSort fun x y => decide (x ≤ y))
theorem sort_pwT (l : List Tx) : (l.mergeSort fun x y => decide (x ≤ y)).Pairwise (fun a b => a ≤ b) := by
 have h := List.pairwise_mergeSort (le := fun x y : Tx => decide (x ≤ y)) (fun a b c h1 h2 => by
   simp only [decide_eq_true_eq] at *
   exact List.le_trans h1 h2) (fun a b => by
   rcases List.le_total a b with h | h <;> simp [h]) l
 exact h.imp (fun h => by simpa using h)
theorem comp_pwT (d : Array Tx) (hd : d.toList.Pairwise (fun a b => a ≤ b)) (m : Nat) (hm : m ≤ d.size) :
  (Lib.compactUpTo d m).Pairwise (· < ·) ∧ (∀ x ∈ Lib.compactUpTo d m, 0 < m ∧ x ≤ d[m - 1]!) ∧ ∀ j, j < m → d[j]! ∈ Lib.compactUpTo d m := by
 induction m with
 | zero => exact ⟨List.Pairwise.nil, by intro x hx; simp [Lib.compactUpTo] at hx, by intro j hj; omega⟩
 | succ m ih =>
  obtain ⟨a, b, c⟩ := ih (by omega)
  rw [Lib.compactUpTo_succ]
  have hle : ∀ i j, i < j → j < d.size → d[i]! ≤ d[j]! := by
   intro i j hij hj
   rw [List.pairwise_iff_getElem] at hd
   have := hd i j (by simpa using (by omega : i < d.size)) (by simpa using hj) hij
   have hi : i < d.size := by omega
   simpa [getElem!_pos, hi, hj] using this
  by_cases k : Lib.keeps d m = true
  ·rw [k]
   simp only [if_true]
   refine ⟨?_, ?_, ?_⟩
   ·rw [List.pairwise_append]
    refine ⟨a, by simp, ?_⟩
    intro x hx y hy
    rw [List.mem_singleton] at hy
    subst hy
    have h1 := b x hx
    have h2 := hle (m - 1) m (by omega) (by omega)
    have h3 : d[m]! ≠ d[m - 1]! := by
     have := k
     simp only [Lib.keeps, decide_eq_true_eq] at this
     rcases this with e | e
     ·omega
     ·exact e
    exact List.lt_of_le_of_lt h1.2 (lt_of_ne h2 (fun e => h3 e.symm))
   ·intro x hx
    rw [List.mem_append, List.mem_singleton] at hx
    refine ⟨by omega, ?_⟩
    rw [Nat.add_sub_cancel]
    rcases hx with e | e
    ·have h1 := b x e
     have h2 := hle (m - 1) m (by omega) (by omega)
     exact List.le_trans h1.2 h2
    ·rw [e]; exact List.le_refl _
   ·intro j hj
    rw [List.mem_append, List.mem_singleton]
    by_cases e : j = m
    ·subst e; exact Or.inr rfl
    ·exact Or.inl (c j (by omega))
  ·have k : Lib.keeps d m = false := by simpa using k
   have hk : 0 < m ∧ d[m]! = d[m - 1]! := by
    simp only [Lib.keeps, decide_eq_false_iff_not, not_or, Classical.not_not] at k
    exact ⟨by omega, k.2⟩
   rw [k]
   simp only [Bool.false_eq_true, if_false, List.append_nil]
   refine ⟨a, ?_, ?_⟩
   ·intro x hx
    have h1 := b x hx
    refine ⟨by omega, ?_⟩
    rw [Nat.add_sub_cancel, hk.2]
    exact h1.2
   ·intro j hj
    by_cases e : j = m
    ·subst e; rw [hk.2]; exact c (j - 1) (by omega)
    ·exact c j (by omega)
theorem comp_subT (d : Array Tx) (m : Nat) (hm : m ≤ d.size) : ∀ x ∈ Lib.compactUpTo d m, x ∈ d.toList := by
 intro x hx
 simp only [Lib.compactUpTo, List.mem_map, List.mem_filter, List.mem_range] at hx
 obtain ⟨j, ⟨hj, _⟩, rfl⟩ := hx
 have : j < d.size := by omega
 simp [getElem!_pos, this]
theorem norm_pwT (l : List Tx) : (normT l).Pairwise (· < ·) := by
 have h := sort_pwT l
 exact (comp_pwT (l.mergeSort fun x y => decide (x ≤ y)).toArray (by simpa using h) _ (by simp)).1
theorem norm_memT (l : List Tx) (x : Tx) : x ∈ normT l ↔ x ∈ l := by
 have h := sort_pwT l
 have hs : x ∈ (l.mergeSort fun x y => decide (x ≤ y)) ↔ x ∈ l := (List.mergeSort_perm l _).mem_iff
 rw [← hs]
 constructor
 ·intro hx
  have := comp_subT _ _ (by simp) x hx
  simpa using this
 ·intro hx
  obtain ⟨j, hj, e⟩ := List.getElem_of_mem hx
  have := (comp_pwT (l.mergeSort fun x y => decide (x ≤ y)).toArray (by simpa using h) (l.mergeSort fun x y => decide (x ≤ y)).length (by simp)).2.2 j hj
  have e2 : (l.mergeSort fun x y => decide (x ≤ y)).toArray[j]! = x := by
   have : j < (l.mergeSort fun x y => decide (x ≤ y)).toArray.size := by simpa using hj
   rw [getElem!_pos _ j this]; simpa using e
  rw [e2] at this
  exact this
theorem norm_lenT (l : List Tx) : (normT l).length ≤ l.length := by
 have h1 : (l.mergeSort fun x y => decide (x ≤ y)).length = l.length := by simp
 unfold normT Lib.compact Lib.compactUpTo
 rw [List.length_map]
 refine Nat.le_trans (List.length_filter_le _ _) ?_
 rw [List.length_range, h1]
 exact Nat.le_refl _
theorem take_gT (l : List Tx) (k : Nat) (h : k < l.length) : l.take (k + 1) = l.take k ++ [l.getD k []] := by
 rw [List.take_succ_eq_append_getElem h]; simp [List.getD, h]
end Go.Proofs.YthanoilbcdhbkaaGreatDoor
