/-
  The walk of the law DaycountSplits.
-/
import Derived.Test.YtnhealjngkhinaaDoorFX
import Derived.Test.YtnhealjngkhinaaDoorRefD
namespace Go.Proofs.YtnhealjngkhinaaDoor
open Go Go.RowKit Go.Lib WM

theorem ok_part {a p b f m t : Int} (h : okB a p b f t = true) (h1 : f ≤ m) (h2 : m ≤ t) : okB a p b f m = true ∧ okB a p b m t = true ∧ okB (-a) p b f t = true ∧
    inV a p b f m + inV a p b m t = inV a p b f t ∧ inV a p b f t + inV (-a) p b f t = 0 := by
  obtain ⟨a0, a1, p0, p1, b0, b1, vf, vt, ht⟩ := (ok_iff a p b f t).1 h
  have vm : vdB m = true := by rw [vd_iff] at *; omega
  have k1 := (ok_iff a p b f m).2 ⟨a0, a1, p0, p1, b0, b1, vf, vm, h1⟩
  have k2 := (ok_iff a p b m t).2 ⟨a0, a1, p0, p1, b0, b1, vm, vt, h2⟩
  have k3 := (ok_iff (-a) p b f t).2 ⟨by omega, by omega, p0, p1, b0, b1, vf, vt, ht⟩
  refine ⟨k1, k2, k3, ?_, ?_⟩
  · rw [(in_yes k1).1, (in_yes k2).1, (in_yes h).1, smI_add vf vt h1 h2, Int.mul_add]
  · rw [(in_yes h).1, (in_yes k3).1, Int.neg_mul, Int.neg_mul]; omega
theorem in_inW (a p b f t : Int) : inW (inV a p b f t) = true := by
  cases h : okB a p b f t
  · rw [(in_no h).1]; decide +kernel
  · rw [(in_yes h).1]; exact in_w h

set_option maxRecDepth 100000 in
set_option maxHeartbeats 8000000 in
theorem wDaycountSplits (a p b f m t : Int) (_ : I64 a) (w : World) (hL : Ln w) :
    Calls Tryd.prog 9 #[.agg #[.int .i64 a, .int .i64 p, .int .i64 b], .int .i64 f, .int .i64 m, .int .i64 t] w fun e w' => e = .returned (.bool true) ∧ Below w.heap.size w w' := by
  have C1 := fun W hW => minterest a p b f t W hW
  cases hok : okB a p b f t
  · simp only [(in_no hok).1, (in_no hok).2, w_zero.1, w_zero.2] at C1
    have C1 := Lib.hid C1
    clear hok
    go_enter Tryd.func9, Tryd.ntmps9
    go_wp2_with fail
    refine (C1.out _ (hL.al _)).mono ?_
    rintro e w1 ⟨rfl, q1⟩
    have Z1 := btr (bal (bref w) _) q1
    go_wp2_with fail
    refine (live_any _ ((hL.keep Z1).al _)).mono ?_
    rintro e w9 ⟨rfl, q9⟩
    have Z9 := btr (bal Z1 _) q9
    go_wp2_with fail
    go_ret
    exact ⟨rfl, Z9⟩
  · have e1 := (in_yes hok).2
    obtain ⟨a0, a1, _⟩ := (ok_iff a p b f t).1 hok
    simp only [e1] at C1
    by_cases h1 : f ≤ m
    rotate_left
    · have h1' : m < f := by omega
      have C1 := Lib.hid C1
      clear hok e1
      go_enter Tryd.func9, Tryd.ntmps9
      go_wp2_with fail
      refine (C1.out _ (hL.al _)).mono ?_
      rintro e w1 ⟨rfl, q1⟩
      have Z1 := btr (bal (bref w) _) q1
      go_wp2_with fail
      refine (live_any _ ((hL.keep Z1).al _)).mono ?_
      rintro e w9 ⟨rfl, q9⟩
      have Z9 := btr (bal Z1 _) q9
      go_wp2_with fail
      go_ret
      exact ⟨rfl, Z9⟩
    by_cases h2 : m ≤ t
    rotate_left
    · have h2' : t < m := by omega
      have C1 := Lib.hid C1
      clear hok e1
      go_enter Tryd.func9, Tryd.ntmps9
      go_wp2_with fail
      refine (C1.out _ (hL.al _)).mono ?_
      rintro e w1 ⟨rfl, q1⟩
      have Z1 := btr (bal (bref w) _) q1
      go_wp2_with fail
      refine (live_any _ ((hL.keep Z1).al _)).mono ?_
      rintro e w9 ⟨rfl, q9⟩
      have Z9 := btr (bal Z1 _) q9
      go_wp2_with fail
      go_ret
      exact ⟨rfl, Z9⟩
    obtain ⟨k1, k2, k3, s1, s2⟩ := ok_part hok h1 h2
    have C2 := fun W hW => minterest a p b f m W hW
    have C3 := fun W hW => minterest a p b m t W hW
    have C4 := fun W hW => minterest (-a) p b f t W hW
    simp only [(in_yes k1).2] at C2
    simp only [(in_yes k2).2] at C3
    simp only [(in_yes k3).2] at C4
    have i0 := in_inW a p b f t
    have i1 := in_inW a p b f m
    have i2 := in_inW a p b m t
    have i3 := in_inW (-a) p b f t
    obtain ⟨vn, h3⟩ : ∃ x, inV a p b f t = x := ⟨_, rfl⟩
    obtain ⟨va, h4⟩ : ∃ x, inV a p b f m = x := ⟨_, rfl⟩
    obtain ⟨vb, h5⟩ : ∃ x, inV a p b m t = x := ⟨_, rfl⟩
    obtain ⟨vc, h6⟩ : ∃ x, inV (-a) p b f t = x := ⟨_, rfl⟩
    rw [h3] at i0 s1 s2; rw [h4] at i1 s1; rw [h5] at i2 s1; rw [h6] at i3 s2
    simp only [h3] at C1; simp only [h4] at C2; simp only [h5] at C3; simp only [h6] at C4
    have A1 := fun W => radd_any (wH va) (wL va) (wH vb) (wL vb) (wH_I64 _) (wL_U64 _) (wH_I64 _) (wL_U64 _) W
    have A2 := fun W => radd_any (wH vn) (wL vn) (wH vc) (wL vc) (wH_I64 _) (wL_U64 _) (wH_I64 _) (wL_U64 _) W
    rw [val_w i1, val_w i2, s1, wE_in i0] at A1
    rw [val_w i0, val_w i3, s2, w_zero.1, w_zero.2, show wE 0 = 0 by decide +kernel] at A2
    obtain ⟨NH, g1⟩ : ∃ x, wH vn = x := ⟨_, rfl⟩
    obtain ⟨NL, g2⟩ : ∃ x, wL vn = x := ⟨_, rfl⟩
    obtain ⟨AH, g3⟩ : ∃ x, wH va = x := ⟨_, rfl⟩
    obtain ⟨AL, g4⟩ : ∃ x, wL va = x := ⟨_, rfl⟩
    obtain ⟨BH, g5⟩ : ∃ x, wH vb = x := ⟨_, rfl⟩
    obtain ⟨BL, g6⟩ : ∃ x, wL vb = x := ⟨_, rfl⟩
    obtain ⟨CH, g7⟩ : ∃ x, wH vc = x := ⟨_, rfl⟩
    obtain ⟨CL, g8⟩ : ∃ x, wL vc = x := ⟨_, rfl⟩
    simp only [g1, g2, g3, g4, g5, g6, g7, g8] at A1 A2 C1 C2 C3 C4
    have C1 := Lib.hid C1; have C2 := Lib.hid C2; have C3 := Lib.hid C3; have C4 := Lib.hid C4; have A1 := Lib.hid A1; have A2 := Lib.hid A2
    clear hok e1 k1 k2 k3 s1 s2 i0 i1 i2 i3 h3 h4 h5 h6 g1 g2 g3 g4 g5 g6 g7 g8
    go_enter Tryd.func9, Tryd.ntmps9
    go_wp2_with fail
    refine (C1.out _ (hL.al _)).mono ?_
    rintro e w1 ⟨rfl, q1⟩
    have X1 := (Box3.new (.int .i64 a) (.int .i64 p) (.int .i64 b) 41 w).keep q1
    have Z1 := btr (bal (bref w) _) q1
    have N1 := Own.new w1 (.int .i64 NH) (.int .u64 NL) 24
    have lt1 : w.heap.size < w1.heap.size := World.block_lt_of_cell? w1 _ X1.1
    clear q1
    have XX := X1
    obtain ⟨x0, x1, x2⟩ := XX
    have X1' := X1.keep (bal (bref w1) (.cells #[.int .i64 NH, .int .u64 NL] 24))
    have Z1' := bal Z1 (.cells #[.int .i64 NH, .int .u64 NL] 24)
    clear X1 Z1
    go_wp2_with fail
    refine (C2.out _ (hL.keep Z1')).mono ?_
    rintro e w2 ⟨rfl, q2⟩
    have X2 := X1'.keep q2
    have N2 := N1.keep q2
    have Z2 := btr Z1' q2
    have A_2 := Own.new w2 (.int .i64 AH) (.int .u64 AL) 24
    have lt2 : w.heap.size < w2.heap.size := World.block_lt_of_cell? w2 _ X2.1
    clear q2 x0 x1 x2 X1' N1 Z1' lt1
    have XX := X2
    obtain ⟨x0, x1, x2⟩ := XX
    have X2' := X2.keep (bal (bref w2) (.cells #[.int .i64 AH, .int .u64 AL] 24))
    have N2' := N2.al (.cells #[.int .i64 AH, .int .u64 AL] 24)
    have Z2' := bal Z2 (.cells #[.int .i64 AH, .int .u64 AL] 24)
    clear X2 Z2 N2
    go_wp2_with fail
    refine (C3.out _ (hL.keep Z2')).mono ?_
    rintro e w3 ⟨rfl, q3⟩
    have X3 := X2'.keep q3
    have N3 := N2'.keep q3
    have A3 := A_2.keep q3
    have Z3 := btr Z2' q3
    have B_3 := Own.new w3 (.int .i64 BH) (.int .u64 BL) 24
    have lt3 : w.heap.size < w3.heap.size := World.block_lt_of_cell? w3 _ X3.1
    clear q3 x0 x1 x2 X2' N2' A_2 Z2' lt2
    have XX := X3
    obtain ⟨x0, x1, x2⟩ := XX
    have X3' := X3.keep (bal (bref w3) (.cells #[.int .i64 BH, .int .u64 BL] 24))
    have N3' := N3.al (.cells #[.int .i64 BH, .int .u64 BL] 24)
    have A3' := A3.al (.cells #[.int .i64 BH, .int .u64 BL] 24)
    have Z3' := bal Z3 (.cells #[.int .i64 BH, .int .u64 BL] 24)
    clear X3 Z3 N3 A3
    go_wp2_with fail
    refine (C4.out _ (hL.keep Z3')).mono ?_
    rintro e w4 ⟨rfl, q4⟩
    have N4 := N3'.keep q4
    have A4 := A3'.keep q4
    have B4 := B_3.keep q4
    have Z4 := btr Z3' q4
    have ln := N4.lt; have la := A4.lt; have lb := B4.lt
    clear q4 x0 x1 x2 X3' N3' A3' B_3 Z3' lt3
    have XN := N4
    obtain ⟨n0, n1, _, _⟩ := XN
    have XA := A4
    obtain ⟨y0, y1, _, _⟩ := XA
    have XB := B4
    obtain ⟨z0, z1, _, _⟩ := XB
    go_wp2_with fail
    have N4' := N4.al (.cells #[.int .i64 CH, .int .u64 CL] 24)
    have C4' := Own.new w4 (.int .i64 CH) (.int .u64 CL) 24
    have Z4' := bal Z4 (.cells #[.int .i64 CH, .int .u64 CL] 24)
    refine (A1.out _).mono ?_
    rintro e w5 ⟨rfl, q5⟩
    have N5 := N4'.keep q5
    have C5 := C4'.keep q5
    have Z5 := btr Z4' q5
    have S5 := Own.new w5 (.int .i64 NH) (.int .u64 NL) 24
    have l5 := N5.lt; have m5 := C5.lt
    clear q5 n0 n1 y0 y1 z0 z1 N4 A4 B4 Z4 N4' C4' Z4' ln la lb
    have XN := N5
    obtain ⟨n0, n1, _, _⟩ := XN
    have XA := C5
    obtain ⟨y0, y1, _, _⟩ := XA
    have N5' := N5.al (.cells #[.int .i64 NH, .int .u64 NL] 24)
    have Z5' := bal Z5 (.cells #[.int .i64 NH, .int .u64 NL] 24)
    clear N5 Z5 C5
    go_wp2_with fail
    refine (A2.out _).mono ?_
    rintro e w6 ⟨rfl, q6⟩
    have N6 := N5'.keep q6
    have S6 := S5.keep q6
    have Z6 := btr Z5' q6
    have l6 := N6.lt; have m6 := S6.lt
    clear q6 n0 n1 y0 y1 N5' S5 Z5' l5 m5
    have XN := N6
    obtain ⟨n0, n1, _, _⟩ := XN
    have XA := S6
    obtain ⟨y0, y1, _, _⟩ := XA
    go_wp2_with fail
    have Z6' := bal Z6 (.cells #[.int .i64 0, .int .u64 0] 24)
    refine (live_any _ (hL.keep Z6')).mono ?_
    rintro e w9 ⟨rfl, q9⟩
    have Z9 := btr Z6' q9
    go_wp2_with fail
    go_ret
    exact ⟨rfl, Z9⟩
end Go.Proofs.YtnhealjngkhinaaDoor
