/-
  The law's guards: few, level, small.
-/
import Derived.Test.YthanoilbcdhbkaaGreatDoorQH
namespace Go.Proofs.YthanoilbcdhbkaaGreatDoor
open Go Go.RowKit Go.Lib Go.Shelf WM TM EM YM

def fewB (a : Cd) : Bool := decide (a.c.length ≤ 200) && decide (a.vs.length ≤ 100)
set_option maxRecDepth 100000 in
theorem lfew (a : Cd) (vo io : Option Addr) (vc ic : Nat) (w : World) :
  Calls Tryz.prog 15 #[.agg #[.int .i64 a.t, .slice vo a.vs.length vc, .slice io a.c.length ic]] w fun r w' => r = .returned (.bool (fewB a)) ∧ Below w.heap.size w w' := by
 unfold fewB
 obtain ⟨t, ht⟩ : ∃ t, a.t = t := ⟨_, rfl⟩
 obtain ⟨vn, hvn⟩ : ∃ n, a.vs.length = n := ⟨_, rfl⟩
 obtain ⟨n, hn⟩ : ∃ n, a.c.length = n := ⟨_, rfl⟩
 rw [ht, hvn, hn]
 clear ht hvn hn
 by_cases h1 : n ≤ 200
 ·have z1 : (n : Int) ≤ 200 := by omega
  rw [decide_eq_true h1, Bool.true_and]
  by_cases h2 : vn ≤ 100
  ·have z2 : (vn : Int) ≤ 100 := by omega
   rw [decide_eq_true h2]
   clear h1 h2
   go_enter Tryz.func15, Tryz.ntmps15
   go_wp2_with fail
   go_ret
   exact ⟨by first | rfl | simp [z2], by repeat (first | exact bref _ | refine bdr ?_ | refine bal ?_ _)⟩
  ·have z2 : ¬ ((vn : Int) ≤ 100) := by omega
   rw [decide_eq_false h2]
   clear h1 h2
   go_enter Tryz.func15, Tryz.ntmps15
   go_wp2_with fail
   go_ret
   exact ⟨by first | rfl | simp [z2], by repeat (first | exact bref _ | refine bdr ?_ | refine bal ?_ _)⟩
 ·have z1 : ¬ ((n : Int) ≤ 200) := by omega
  rw [decide_eq_false h1, Bool.false_and]
  clear h1
  go_enter Tryz.func15, Tryz.ntmps15
  go_wp2_with fail
  go_ret
  exact ⟨by first | rfl | simp [z1], by repeat (first | exact bref _ | refine bdr ?_ | refine bal ?_ _)⟩

/-! ### level -/
end Go.Proofs.YthanoilbcdhbkaaGreatDoor
