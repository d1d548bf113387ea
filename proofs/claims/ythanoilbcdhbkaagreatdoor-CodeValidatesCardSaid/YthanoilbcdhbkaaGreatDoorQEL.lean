/-
  Lists of texts: sorted, each once; equal lists.
-/
import Derived.Test.YthanoilbcdhbkaaGreatDoorQEA
import Derived.Test.YthanoilbcdhbkaaGreatDoorQShelf
import Derived.Lib.SlicesCompact
namespace Go.Proofs.YthanoilbcdhbkaaGreatDoor
open Go Go.RowKit Go.Lib WM TM EM

abbrev Tx := List UInt8
def TxAt (ao : Option Addr) (zs : List Tx) (w : World) : Prop := ∀ i, i < zs.length → ∃ b off, ao = some ⟨b, off, none⟩ ∧ b < w.heap.size ∧ w.cell? ⟨b, off + i, none⟩ = some (.string (str (zs.getD i [])))
theorem TxAt.keep {ao : Option Addr} {zs : List Tx} {w w' : World} (h : TxAt ao zs w) (hb : Below w.heap.size w w') : TxAt ao zs w' := by
 intro i hi
 obtain ⟨b, off, e, hbw, c⟩ := h i hi
 exact ⟨b, off, e, by have := hb.size; omega, keepc hb c⟩
theorem TxAt.nil (ao : Option Addr) (w : World) : TxAt ao [] w := fun _ hi => absurd hi (Nat.not_lt_zero _)
def nmL (l : List Ex) : List Tx := (l.filter fun x => decide (x.op = 4)).map (·.s)
def NmS (e : Ex) (l : List Tx) : Prop := l.Pairwise (· < ·) ∧ ∀ s, s ∈ l ↔ s ∈ nmL (EM.pre e)
theorem asc_ext : ∀ {l m : List Tx}, l.Pairwise (· < ·) → m.Pairwise (· < ·) → (∀ s, s ∈ l ↔ s ∈ m) → l = m := by
 intro l
 induction l with
 | nil =>
  intro m _ _ h
  cases m with
  | nil => rfl
  | cons y m => exact absurd ((h y).2 (by simp)) (by simp)
 | cons x l ih =>
  intro m hl hm h
  cases m with
  | nil => exact absurd ((h x).1 (by simp)) (by simp)
  | cons y m =>
   rw [List.pairwise_cons] at hl hm
   have hxy : x = y := by
    have h1 := (h x).1 (by simp)
    have h2 := (h y).2 (by simp)
    rcases List.mem_cons.1 h1 with e | h1
    ·exact e
    ·rcases List.mem_cons.1 h2 with e | h2
     ·exact e.symm
     ·exact absurd (hl.1 y h2) (fun k => List.lt_asymm k (hm.1 x h1))
   subst hxy
   congr 1
   refine ih hl.2 hm.2 fun s => ?_
   constructor
   ·intro hs
    rcases List.mem_cons.1 ((h s).1 (by simp [hs])) with e | k
    ·subst e; exact absurd (hl.1 s hs) (List.lt_irrefl s)
    ·exact k
   ·intro hs
    rcases List.mem_cons.1 ((h s).2 (by simp [hs])) with e | k
    ·subst e; exact absurd (hm.1 s hs) (List.lt_irrefl s)
    ·exact k
theorem NmS.eq {e : Ex} {l m : List Tx} (h : NmS e l) (k : NmS e m) : l = m := asc_ext h.1 k.1 fun s => (h.2 s).trans (k.2 s).symm
end Go.Proofs.YthanoilbcdhbkaaGreatDoor
