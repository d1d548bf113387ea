/-
  The walk of the law RoundingPercents, for what live answers (its contract comes with Split).
-/
import Derived.Test.YtjhfbnndapopgaaDoorRP
import Derived.Test.YtjhfbnndapopgaaDoorRPR
namespace Go.Proofs.YtjhfbnndapopgaaDoor
open Go Go.RowKit Go.Lib WM

/-- What the walk of corebanklaw02's live has to give. -/
def Live2 : Prop := ∀ w : World, Ch w → Calls Tryd.prog 22 #[] w fun e w' => e = .returned (.bool true) ∧ Below w.heap.size w w'

set_option maxRecDepth 100000 in
set_option maxHeartbeats 4000000 in
theorem percents_of (L : Live2) (a p m : Int) (ha : I64 a) (hp : I64 p) (_hm : I64 m) (w : World) (hch : Ch w) :
    Calls Tryd.prog 6 #[.int .i64 a, .int .i64 p, .int .i64 m] w fun e w' => e = .returned (.bool true) ∧ Below w.heap.size w w' := by
  have C1 := fun W hC => percent_any a p m ha hp W hC
  have C2 := fun W => rpercent_any a p m ha hp W
  obtain ⟨Q, e1⟩ : ∃ x, pQ a p m = x := ⟨_, rfl⟩
  obtain ⟨E, e2⟩ : ∃ x, pE' a p m = x := ⟨_, rfl⟩
  simp only [e1, e2] at C1 C2
  have C1 := Lib.hid C1; have C2 := Lib.hid C2
  clear e1 e2
  go_enter Tryd.func6, Tryd.ntmps6
  go_wp2_with fail
  refine (C1.out _ hch).mono ?_
  rintro e w1 ⟨rfl, q1⟩
  have h1 := hch.keep q1
  go_wp2_with fail
  refine (C2.out _).mono ?_
  rintro e w2 ⟨rfl, q2⟩
  have h2 := h1.keep q2
  have Z2 := btr q1 q2
  go_wp2_with fail
  refine (L _ h2).mono ?_
  rintro e w3 ⟨rfl, q3⟩
  have Z3 := btr Z2 q3
  go_wp2_with fail
  go_ret
  exact ⟨rfl, Z3⟩
end Go.Proofs.YtjhfbnndapopgaaDoor
