/-
  The walk of the law DaycountInterest.
-/
import Derived.Test.YtnhealjngkhinaaDoorFN
namespace Go.Proofs.YtnhealjngkhinaaDoor
open Go Go.RowKit Go.Lib WM

/-- A box of three cells. -/
def Box3 (b : Nat) (x y z : Value) (W : World) : Prop := W.cell? ⟨b, 0, none⟩ = some x ∧ W.cell? ⟨b, 1, none⟩ = some y ∧ W.cell? ⟨b, 2, none⟩ = some z
theorem Box3.keep {b : Nat} {x y z : Value} {w w' : World} (h : Box3 b x y z w) (hb : Below w.heap.size w w') : Box3 b x y z w' := by
  have hl : b < w.heap.size := World.block_lt_of_cell? w _ h.1
  exact ⟨(hb.cell (p := ⟨b, 0, none⟩) hl).trans h.1, (hb.cell (p := ⟨b, 1, none⟩) hl).trans h.2.1, (hb.cell (p := ⟨b, 2, none⟩) hl).trans h.2.2⟩
theorem Box3.new (x y z : Value) (t : TypeId) (w : World) : Box3 w.heap.size x y z (w.alloc (.cells #[x, y, z] t)) := by
  refine ⟨?_, ?_, ?_⟩ <;> simp [go_sem]

set_option maxRecDepth 100000 in
set_option maxHeartbeats 4000000 in
theorem wDaycountInterest (a p b f t : Int) (w : World) (hL : Ln w) :
    Calls Tryd.prog 8 #[.agg #[.int .i64 a, .int .i64 p, .int .i64 b], .int .i64 f, .int .i64 t] w fun e w' => e = .returned (.bool true) ∧ Below w.heap.size w w' := by
  have NB := fun W => near_any f t W
  have C1 := fun W hW => minterest a p b f t W hW
  have C2 := fun W => rinterest a p b f t W
  obtain ⟨H, hH⟩ : ∃ N, wH (inV a p b f t) = N := ⟨_, rfl⟩
  obtain ⟨L, hLo⟩ : ∃ N, wL (inV a p b f t) = N := ⟨_, rfl⟩
  obtain ⟨E, hE⟩ : ∃ N, inE a p b f t = N := ⟨_, rfl⟩
  simp only [hH, hLo, hE] at C1 C2
  cases hn : nearB f t
  all_goals
    simp only [hn] at NB
    have NB := Lib.hid NB; have C1 := Lib.hid C1; have C2 := Lib.hid C2
    clear hH hLo hE hn
  · go_enter Tryd.func8, Tryd.ntmps8
    go_wp2_with fail
    refine (NB.out _).mono ?_
    rintro e w1 ⟨rfl, rfl⟩
    go_wp2_with fail
    refine (live_any _ (hL.al _)).mono ?_
    rintro e w9 ⟨rfl, q9⟩
    have Z9 := btr (bal (bref w) _) q9
    go_wp2_with fail
    go_ret
    exact ⟨rfl, Z9⟩
  · go_enter Tryd.func8, Tryd.ntmps8
    go_wp2_with fail
    refine (NB.out _).mono ?_
    rintro e w1 ⟨rfl, rfl⟩
    go_wp2_with fail
    refine (C1.out _ (hL.al _)).mono ?_
    rintro e w1 ⟨rfl, q1⟩
    have X1 := (Box3.new (.int .i64 a) (.int .i64 p) (.int .i64 b) 41 w).keep q1
    have Z1 := btr (bal (bref w) _) q1
    clear q1
    have XX := X1
    have lt1 : w.heap.size < w1.heap.size := World.block_lt_of_cell? w1 _ X1.1
    obtain ⟨x0, x1, x2⟩ := XX
    go_wp2_with fail
    refine (C2.out _).mono ?_
    rintro e w2 ⟨rfl, q2⟩
    have Y2 := (Own.new w1 (.int .i64 H) (.int .u64 L) 24).keep q2
    have Z2 := btr (bal Z1 _) q2
    have lt2 := Y2.lt
    clear q2 x0 x1 x2 X1
    obtain ⟨y0, y1, y2, y3⟩ := Y2
    go_wp2_with fail
    refine (live_any _ ((hL.keep Z2).al _)).mono ?_
    rintro e w9 ⟨rfl, q9⟩
    have Z9 := btr (bal Z2 _) q9
    go_wp2_with fail
    go_ret
    exact ⟨rfl, Z9⟩
end Go.Proofs.YtnhealjngkhinaaDoor
