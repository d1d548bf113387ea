/-
  The contract of the document's own Mul.
-/
import Derived.Test.YtjhfbnndapopgaaDoorRefF
namespace Go.Proofs.YtjhfbnndapopgaaDoor
open Go Go.RowKit WM

set_option maxHeartbeats 1000000 in
theorem rmul_any (a b : Int) (ha : I64 a) (hb : I64 b) (w : World) :
    Calls Tryd.prog 26 #[.int .i64 a, .int .i64 b] w fun e w' => e = .returned (.agg #[.int .i64 (wH (a * b)), .int .u64 (wL (a * b))]) ∧ Below w.heap.size w w' := by
  have S := fun W => rscale_any (wH a) (wL a) b (wH_I64 a) (wL_U64 a) hb W
  rw [val_w (inW_I64 ha)] at S
  have S := Lib.hid S
  go_enter Tryd.func26, Tryd.ntmps26
  have R0 := Own.new w (.int .i64 0) (.int .u64 0) 24
  go_wp2_with fail
  refine (rof_any a ha _).mono ?_
  rintro e w1 ⟨rfl, q1⟩
  have R1 := R0.keep q1
  have Z1 := btr (bal (bref w) _) q1
  have s1 := R1.lt
  clear R0 q1
  go_wp2_with fail
  refine (S.out _).mono ?_
  rintro e w2 ⟨rfl, q2⟩
  have R2 := R1.keep q2
  have Z2 := btr Z1 q2
  have s2 := R2.lt
  clear R1 Z1 q2
  obtain ⟨r0, r1, r2, r3⟩ := R2
  go_wp2_with fail
  refine bodyPost_ret (v := .agg #[.int .i64 (wH (a * b)), .int .u64 (wL (a * b))]) (by simp [results, Tryd.results26, go_sem, r0, r1, s2]) rfl ⟨rfl, ?_⟩
  (repeat (first | exact Z2 | refine bal ?_ _ | refine bset ?_ (by dsimp only; omega) _))
end Go.Proofs.YtjhfbnndapopgaaDoor
