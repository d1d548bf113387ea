/-
  Expressions in memory, and the document's functions that only read them.
-/
import Derived.Test.YthanoilbcdhbkaaGreatDoorQA
import Derived.Test.YthanoilbcdhbkaaGreatDoorQEM
import Derived.Deep.RegionHeld3
namespace Go.Proofs.YthanoilbcdhbkaaGreatDoor
open Go Go.RowKit Go.Lib WM TM EM

def E0 : Ex := .mk 0 0 [] []
mutual
def In1 (w : World) : Ex → Option Addr → Prop
 | .mk _ _ _ a, so => InL w a so 0
def InL (w : World) : List Ex → Option Addr → Nat → Prop
 | [], _, _ => True
 | e :: l, ao, i => (∃ b off so cap, ao = some ⟨b, off, none⟩ ∧ b < w.heap.size ∧ w.cell? ⟨b, off + i * 4, none⟩ = some (.int .i64 e.op) ∧ w.cell? ⟨b, off + i * 4 + 1, none⟩ = some (.int .i64 e.n) ∧
   w.cell? ⟨b, off + i * 4 + 2, none⟩ = some (.string (str e.s)) ∧ w.cell? ⟨b, off + i * 4 + 3, none⟩ = some (.slice so e.args.length cap) ∧ In1 w e so ∧ (so = none → cap = 0)) ∧ InL w l ao (i + 1)
end
def ExprsAt (ao : Option Addr) (l : List Ex) (w : World) : Prop := InL w l ao 0
theorem in1_eq (w : World) (e : Ex) (so : Option Addr) : In1 w e so = ExprsAt so e.args w := by cases e; rfl
theorem inL_at {w : World} {ao : Option Addr} : ∀ (l : List Ex) (j : Nat), InL w l ao j → ∀ i, i < l.length → ∃ b off so cap, ao = some ⟨b, off, none⟩ ∧ b < w.heap.size ∧ w.cell? ⟨b, off + (j + i) * 4, none⟩ = some (.int .i64 (l.getD i E0).op) ∧
  w.cell? ⟨b, off + (j + i) * 4 + 1, none⟩ = some (.int .i64 (l.getD i E0).n) ∧ w.cell? ⟨b, off + (j + i) * 4 + 2, none⟩ = some (.string (str (l.getD i E0).s)) ∧
  w.cell? ⟨b, off + (j + i) * 4 + 3, none⟩ = some (.slice so (l.getD i E0).args.length cap) ∧ ExprsAt so (l.getD i E0).args w ∧ (so = none → cap = 0) := by
 intro l
 induction l with
 | nil => intro j _ i hi; exact absurd hi (Nat.not_lt_zero _)
 | cons e l ih =>
  intro j h i hi
  obtain ⟨⟨b, off, so, cap, h1, h2, h3, h4, h5, h6, h7, h8⟩, hl⟩ := h
  cases i with
  | zero => exact ⟨b, off, so, cap, h1, h2, h3, h4, h5, h6, by rw [in1_eq] at h7; exact h7, h8⟩
  | succ i =>
   have := ih (j + 1) hl i (Nat.lt_of_succ_lt_succ hi)
   rw [show j + 1 + i = j + (i + 1) by omega] at this
   exact this
theorem ExprsAt.at {w : World} {ao : Option Addr} {l : List Ex} (h : ExprsAt ao l w) (i : Nat) (hi : i < l.length) : ∃ b off so cap, ao = some ⟨b, off, none⟩ ∧ b < w.heap.size ∧ w.cell? ⟨b, off + i * 4, none⟩ = some (.int .i64 (l.getD i E0).op) ∧
  w.cell? ⟨b, off + i * 4 + 1, none⟩ = some (.int .i64 (l.getD i E0).n) ∧ w.cell? ⟨b, off + i * 4 + 2, none⟩ = some (.string (str (l.getD i E0).s)) ∧
  w.cell? ⟨b, off + i * 4 + 3, none⟩ = some (.slice so (l.getD i E0).args.length cap) ∧ ExprsAt so (l.getD i E0).args w ∧ (so = none → cap = 0) := by
 have := inL_at l 0 h i hi
 rwa [Nat.zero_add] at this
theorem inL_mk {w : World} {ao : Option Addr} : ∀ (l : List Ex) (j : Nat), (∀ i, i < l.length → ∃ b off so cap, ao = some ⟨b, off, none⟩ ∧ b < w.heap.size ∧ w.cell? ⟨b, off + (j + i) * 4, none⟩ = some (.int .i64 (l.getD i E0).op) ∧
  w.cell? ⟨b, off + (j + i) * 4 + 1, none⟩ = some (.int .i64 (l.getD i E0).n) ∧ w.cell? ⟨b, off + (j + i) * 4 + 2, none⟩ = some (.string (str (l.getD i E0).s)) ∧
  w.cell? ⟨b, off + (j + i) * 4 + 3, none⟩ = some (.slice so (l.getD i E0).args.length cap) ∧ ExprsAt so (l.getD i E0).args w ∧ (so = none → cap = 0)) → InL w l ao j := by
 intro l
 induction l with
 | nil => intro j _; trivial
 | cons e l ih =>
  intro j h
  refine ⟨?_, ih (j + 1) fun i hi => ?_⟩
  ·obtain ⟨b, off, so, cap, h1, h2, h3, h4, h5, h6, h7, h8⟩ := h 0 (by simp)
   exact ⟨b, off, so, cap, h1, h2, h3, h4, h5, h6, by rw [in1_eq]; exact h7, h8⟩
  ·have := h (i + 1) (by simpa using hi)
   rw [show j + (i + 1) = j + 1 + i by omega] at this
   exact this
theorem ExprsAt.mk {w : World} {ao : Option Addr} {l : List Ex} (h : ∀ i, i < l.length → ∃ b off so cap, ao = some ⟨b, off, none⟩ ∧ b < w.heap.size ∧ w.cell? ⟨b, off + i * 4, none⟩ = some (.int .i64 (l.getD i E0).op) ∧
  w.cell? ⟨b, off + i * 4 + 1, none⟩ = some (.int .i64 (l.getD i E0).n) ∧ w.cell? ⟨b, off + i * 4 + 2, none⟩ = some (.string (str (l.getD i E0).s)) ∧
  w.cell? ⟨b, off + i * 4 + 3, none⟩ = some (.slice so (l.getD i E0).args.length cap) ∧ ExprsAt so (l.getD i E0).args w ∧ (so = none → cap = 0)) : ExprsAt ao l w :=
 inL_mk l 0 (by simpa using h)
theorem ExprsAt.nil (ao : Option Addr) (w : World) : ExprsAt ao [] w := trivial
theorem siz_args {e : Ex} {x : Ex} (h : x ∈ e.args) : siz x < siz e := by
 obtain ⟨o, n, s, a⟩ := e
 rw [siz_mk]
 have := siz_mem (show x ∈ a from h)
 omega
theorem ex_ind (p : Ex → Prop) (h : ∀ e, (∀ x ∈ e.args, p x) → p e) : ∀ e, p e := by
 have : ∀ N e, siz e ≤ N → p e := by
  intro N
  induction N with
  | zero => intro e he; have := siz_pos e; omega
  | succ N ih => exact fun e he => h e fun x hx => ih x (by have := siz_args hx; omega)
 exact fun e => this _ e (Nat.le_refl _)
theorem exs_keep {w w' : World} (hb : Below w.heap.size w w') : ∀ e : Ex, ∀ ao, ExprsAt ao e.args w → ExprsAt ao e.args w' := by
 refine ex_ind _ fun e ih ao h => ExprsAt.mk fun i hi => ?_
 obtain ⟨b, off, so, cap, h1, h2, h3, h4, h5, h6, h7, h8⟩ := h.at i hi
 exact ⟨b, off, so, cap, h1, by have := hb.size; omega, keepc hb h3, keepc hb h4, keepc hb h5, keepc hb h6, ih _ (by simp [List.getD, hi]) so h7, h8⟩
theorem ExprsAt.keep {ao : Option Addr} {l : List Ex} {w w' : World} (h : ExprsAt ao l w) (hb : Below w.heap.size w w') : ExprsAt ao l w' := exs_keep hb (.mk 0 0 [] l) ao h
theorem ExprsAt.drewN {ao : Option Addr} {l : List Ex} {w : World} (h : ExprsAt ao l w) (z : Nat) : ExprsAt ao l (w.drewN z) := h.keep (bdn (bref w) z)
theorem siz_eq (e : Ex) : siz e = sizs e.args + 1 := by cases e; exact siz_mk _ _ _ _
theorem sizs_take (l : List Ex) (k : Nat) (h : k < l.length) : sizs (l.take (k + 1)) = sizs (l.take k) + siz (l.getD k E0) := by
 rw [List.take_succ_eq_append_getElem h, sizs_app, sizs_cons, sizs_nil]
 simp [List.getD, h]
theorem sizs_take_le (l : List Ex) (k : Nat) : sizs (l.take k) ≤ sizs l := by
 rw [← List.take_append_drop k l, sizs_app]
 simp
theorem getD_mem'' {α : Type} (d : α) (l : List α) (k : Nat) (h : k < l.length) : l.getD k d ∈ l := by
 simp [List.getD, h]

theorem sizs_le (l : List Ex) (k : Nat) : k ≤ l.length → k ≤ sizs (l.take k) := by
 intro h
 have := sizs_len (l.take k)
 rw [List.length_take] at this
 omega
theorem deps_take (l : List Ex) (k : Nat) (h : k < l.length) : deps (l.take (k + 1)) = max (deps (l.take k)) (dep (l.getD k E0)) := by
 rw [List.take_succ_eq_append_getElem h]
 have key : ∀ (m : List Ex) (x : Ex), deps (m ++ [x]) = max (deps m) (dep x) := by
  intro m x
  induction m with
  | nil => simp [deps]
  | cons y m ih => simp only [List.cons_append, deps, ih]; omega
 rw [key]
 simp [List.getD, h]
theorem dep_eq (e : Ex) : dep e = deps e.args + 1 := by cases e; rfl
end Go.Proofs.YthanoilbcdhbkaaGreatDoor
