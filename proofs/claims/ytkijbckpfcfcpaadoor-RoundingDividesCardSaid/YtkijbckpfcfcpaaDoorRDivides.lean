/-
  The walk of the law RoundingDivides, for what live answers.
-/
import Derived.Test.YtkijbckpfcfcpaaDoorRPercents
namespace Go.Proofs.YtkijbckpfcfcpaaDoor
open Go Go.RowKit Go.Lib WM

set_option maxRecDepth 100000 in
set_option maxHeartbeats 4000000 in
theorem rdivides_of (L : Live2) (a l n m : Int) (hh : I64 a) (hl : U64 l) (hn : I64 n) (_hm : I64 m) (w : World) (hch : Ch w) :
    Calls Tryd.prog 4 #[.agg #[.int .i64 a, .int .u64 l], .int .i64 n, .int .i64 m] w fun e w' => e = .returned (.bool true) ∧ Below w.heap.size w w' := by
  have C1 := fun W hC => rdivide_of a l n m hh hl hn W hC
  have C2 := fun W => rrdivide_of a l n m hh hl hn W
  have C3 := fun W => valid_any m W
  have C4 := fun W => rvalid_any m W
  obtain ⟨Q, e1⟩ : ∃ x, dQ (val a l) n m = x := ⟨_, rfl⟩
  obtain ⟨E, e2⟩ : ∃ x, dE (val a l) n m = x := ⟨_, rfl⟩
  obtain ⟨V, e3⟩ : ∃ x, validB m = x := ⟨_, rfl⟩
  simp only [e1, e2] at C1 C2
  simp only [e3] at C3 C4
  have C1 := Lib.hid C1; have C2 := Lib.hid C2; have C3 := Lib.hid C3; have C4 := Lib.hid C4
  clear e1 e2 e3
  go_enter Tryd.func4, Tryd.ntmps4
  have A0 := Own.new w (.int .i64 a) (.int .u64 l) 24
  have h0 : Ch (w.alloc (.cells #[.int .i64 a, .int .u64 l] 24)) := hch.keep (bal (bref _) _)
  have Z0 := bal (bref w) (.cells #[.int .i64 a, .int .u64 l] 24)
  go_wp2_with fail
  refine (C1.out _ h0).mono ?_
  rintro e w1 ⟨rfl, q1⟩
  have h1 := h0.keep q1
  have A1 := A0.keep q1
  have Z1 := btr Z0 q1
  obtain ⟨f0, f1, _, _⟩ := A1
  go_wp2_with fail
  refine (C2.out _).mono ?_
  rintro e w2 ⟨rfl, q2⟩
  have h2 := h1.keep q2
  have Z2 := btr Z1 q2
  go_wp2_with fail
  refine (C3.out _).mono ?_
  rintro e w3 ⟨rfl, rfl⟩
  go_wp2_with fail
  refine (C4.out _).mono ?_
  rintro e w4 ⟨rfl, rfl⟩
  go_wp2_with fail
  refine (L _ h2).mono ?_
  rintro e w5 ⟨rfl, q5⟩
  have Z5 := btr Z2 q5
  go_wp2_with fail
  go_ret
  exact ⟨rfl, Z5⟩
end Go.Proofs.YtkijbckpfcfcpaaDoor
