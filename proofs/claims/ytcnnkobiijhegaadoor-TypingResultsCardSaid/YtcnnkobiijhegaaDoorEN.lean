/-
  Nodes: a loop over all nodes that counts.
-/
import Derived.Test.YtcnnkobiijhegaaDoorEK
namespace Go.Proofs.YtcnnkobiijhegaaDoor
open Go Go.RowKit Go.Lib Go.Shelf WM TM EM

attribute [local go_sem] Oper.semAt_some
theorem Turn.cell {r : Nat} {W W' : World} (h : Turn r W W') {p : Addr} {x : Value} (hne : p.block ≠ r) (hc : W.cell? p = some x) : W'.cell? p = some x :=
  (World.cell?_of_block (h.2.2.2.2 p.block (World.block_lt_of_cell? W _ hc) hne)).trans hc
theorem Turn.frozen {r : Nat} {W W' : World} (h : Turn r W W') {p : Addr} {x : Value} (hne : p.block ≠ r) (hc : W.cell? p = some x) : W'.frozen? p = W.frozen? p :=
  World.frozen?_of_block (h.2.2.2.2 p.block (World.block_lt_of_cell? W _ hc) hne)
theorem Turn.below {r n : Nat} {w W W' : World} (h : Turn r W W') (hb : Below n w W) (hn : n ≤ w.heap.size) (hr : n ≤ r) : Below n w W' :=
  ⟨h.1.trans hb.os, h.2.1.trans hb.tape, h.2.2.1.trans hb.output, Nat.le_trans hb.size h.2.2.2.1, fun k hk => (h.2.2.2.2 k (by have := hb.size; omega) (by omega)).trans (hb.block k hk)⟩
theorem put_cell {W : World} {l : Nat} {o' : Obj} {p : Addr} {x : Value} (hne : p.block ≠ l) (hc : W.cell? p = some x) : (W.putObj l o').cell? p = some x :=
  (World.cell?_of_block (World.putObj_heap_other hne)).trans hc
theorem put_frozen {W : World} {l : Nat} {o' : Obj} {p : Addr} (hne : p.block ≠ l) : (W.putObj l o').frozen? p = W.frozen? p :=
  World.frozen?_of_block (World.putObj_heap_other hne)
theorem put_below {n l : Nat} {w W : World} {o' : Obj} (hb : Below n w W) (hn : n ≤ w.heap.size) (hl : n ≤ l) : Below n w (W.putObj l o') :=
  hb.grown (grownBy_putObj' W l o') (Nat.le_trans hn hb.size) (fun k e => by cases e; omega)
/-- A box: one cell, not frozen. -/
def B1 (b : Nat) (v : Value) (W : World) : Prop := W.cell? ⟨b, 0, none⟩ = some v ∧ W.frozen? ⟨b, 0, none⟩ = false
theorem B1.turn {r b : Nat} {v : Value} {W W' : World} (h : B1 b v W) (ht : Turn r W W') (hne : b ≠ r) : B1 b v W' :=
  ⟨ht.cell (p := ⟨b, 0, none⟩) hne h.1, (ht.frozen (p := ⟨b, 0, none⟩) hne h.1).trans h.2⟩
theorem B1.put {l b : Nat} {v : Value} {W : World} {o' : Obj} (h : B1 b v W) (hne : b ≠ l) : B1 b v (W.putObj l o') :=
  ⟨put_cell (p := ⟨b, 0, none⟩) hne h.1, (put_frozen (p := ⟨b, 0, none⟩) hne).trans h.2⟩
theorem B1.keep {b : Nat} {v : Value} {W W' : World} (h : B1 b v W) (hb : Below W.heap.size W W') : B1 b v W' := ⟨keepc hb h.1, keepf hb h.1 h.2⟩
theorem wrap_more (n : Nat) : wrap64 (wrap64 (n : Int) + 1) = wrap64 ((n + 1 : Nat) : Int) := by unfold wrap64; omega

end Go.Proofs.YtcnnkobiijhegaaDoor
