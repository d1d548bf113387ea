/-
  Tokens: what every walk uses.
-/
import Derived.Test.YtcnnkobiijhegaaDoorProg
import Derived.Test.YtcnnkobiijhegaaDoorTN
import Derived.WalkKit
import Derived.WalkMore
import Derived.Outline
import Derived.Below
import Derived.Lib.Hide
import Derived.Lib.Walk
import Derived.Laws.Externs
import Derived.Laws.Slices
import Derived.Laws.Strings3
import Derived.Laws.BitsAllLaws
import Derived.Laws.Shifts
import Derived.Laws.Bits64b
import Derived.Deep.QuietTactic
import Derived.BigQuiet
import Derived.BigCall
import Derived.BigGuard
import Derived.WalkSpells
import Derived.IntWalk
import Derived.LoopN
import Derived.Deep.LoopGhost
import Derived.OwnWalk
import Derived.ArgAppend
import Derived.Lib.SlFresh
import Derived.Lib.AppendStr
import Derived.Laws.IdiomStrings
import Derived.KernelRfl
import Derived.Deep.Heap
namespace Go.Proofs.YtcnnkobiijhegaaDoor
open Go Go.RowKit Go.Lib WM TM

theorem bal {w w' : World} (h : Below w.heap.size w w') (o : Obj) : Below w.heap.size w (w'.alloc o) := h.alloc h.size _
theorem btr {w w' w'' : World} (h : Below w.heap.size w w') (k : Below w'.heap.size w' w'') : Below w.heap.size w w'' := h.trans (k.mono h.size)
theorem bref (w : World) : Below w.heap.size w w := Below.refl _ _
theorem bdr {w w' : World} (h : Below w.heap.size w w') : Below w.heap.size w w'.drew := h.drew
theorem bdn {w w' : World} (h : Below w.heap.size w w') (n : Nat) : Below w.heap.size w (w'.drewN n) := ⟨h.os, h.tape, h.output, h.size, h.block⟩

theorem str_nil : str [] = ⟨#[]⟩ := rfl
theorem bset {w w' : World} {a : Addr} (h : Below w.heap.size w w') (hb : w.heap.size ≤ a.block) (v : Value) : Below w.heap.size w (w'.setCell a v) := h.setCell hb v
theorem keepc {W w1 : World} {p : Addr} {x : Value} (hb : Below W.heap.size W w1) (h : W.cell? p = some x) : w1.cell? p = some x :=
  (hb.cell (World.block_lt_of_cell? W _ h)).trans h
theorem keepf {W w1 : World} {p : Addr} {x : Value} {f : Bool} (hb : Below W.heap.size W w1) (h : W.cell? p = some x) (hf : W.frozen? p = f) : w1.frozen? p = f := by
  have h1 := hb.block p.block (World.block_lt_of_cell? W _ h)
  unfold World.frozen? at *
  rw [h1]; exact hf
end Go.Proofs.YtcnnkobiijhegaaDoor
