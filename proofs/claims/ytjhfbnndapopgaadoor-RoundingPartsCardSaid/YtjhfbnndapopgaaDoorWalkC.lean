/-
  Contracts of package wide's Scale and Mul.
-/
import Derived.Test.YtjhfbnndapopgaaDoorWalkB
import Derived.Test.YtjhfbnndapopgaaDoorMath
namespace Go.Proofs.YtjhfbnndapopgaaDoor
open Go Go.RowKit WM

theorem keepc {W w1 : World} (hb : Below W.heap.size W w1) {b o : Nat} {v : Value} (hc : W.cell? ⟨b, o, none⟩ = some v) : w1.cell? ⟨b, o, none⟩ = some v :=
  (hb.cell (p := ⟨b, o, none⟩) (World.block_lt_of_cell? W _ hc)).trans hc
theorem keepf {W w1 : World} (hb : Below W.heap.size W w1) {b o : Nat} {v : Value} (hc : W.cell? ⟨b, o, none⟩ = some v) (hf : W.frozen? ⟨b, o, none⟩ = false) : w1.frozen? ⟨b, o, none⟩ = false :=
  (hb.frozen (p := ⟨b, o, none⟩) (World.block_lt_of_cell? W _ hc)).trans hf
theorem bdn {w w' : World} (h : Below w.heap.size w w') (n : Nat) : Below w.heap.size w (w'.drewN n) := ⟨h.os, h.tape, h.output, h.size, h.block⟩
/-- Block b holds the two cells x, y, not frozen. -/
def Own (w : World) (b : Nat) (x y : Value) : Prop := w.cell? ⟨b, 0, none⟩ = some x ∧ w.cell? ⟨b, 1, none⟩ = some y ∧ w.frozen? ⟨b, 0, none⟩ = false ∧ w.frozen? ⟨b, 1, none⟩ = false
theorem Own.keep {W w1 : World} {b : Nat} {x y : Value} (h : Own W b x y) (hb : Below W.heap.size W w1) : Own w1 b x y :=
  ⟨keepc hb h.1, keepc hb h.2.1, keepf hb h.1 h.2.2.1, keepf hb h.2.1 h.2.2.2⟩
theorem Own.lt {W : World} {b : Nat} {x y : Value} (h : Own W b x y) : b < W.heap.size := World.block_lt_of_cell? W _ h.1
theorem Own.al {W : World} {b : Nat} {x y : Value} (h : Own W b x y) (o : Obj) : Own (W.alloc o) b x y := h.keep ((Below.refl _ _).alloc (Nat.le_refl _) _)
theorem Own.drN {W : World} {b : Nat} {x y : Value} (h : Own W b x y) (n : Nat) : Own (W.drewN n) b x y := h
theorem Own.dr {W : World} {b : Nat} {x y : Value} (h : Own W b x y) : Own W.drew b x y := h
theorem Own.far {W : World} {b : Nat} {x y : Value} (h : Own W b x y) {p : Addr} (hp : p.block ≠ b) (v : Value) : Own (W.setCell p v) b x y :=
  ⟨(World.cell?_setCell_other W p _ v (by intro e; subst e; exact hp rfl)).trans h.1, (World.cell?_setCell_other W p _ v (by intro e; subst e; exact hp rfl)).trans h.2.1,
    (World.frozen?_setCell W p _ v).trans h.2.2.1, (World.frozen?_setCell W p _ v).trans h.2.2.2⟩
theorem Own.new (W : World) (x y : Value) (t : TypeId) : Own (W.alloc (.cells #[x, y] t)) W.heap.size x y := by
  refine ⟨?_, ?_, ?_, ?_⟩ <;> simp [go_sem]

theorem Own.new2 (w : World) (o : Obj) (x y : Value) (t : TypeId) : Own ((w.alloc o).alloc (.cells #[x, y] t)) (w.heap.size + 1) x y := by simpa using Own.new (w.alloc o) x y t

set_option maxHeartbeats 1000000 in
/-- Scale. -/
theorem scale_any (h l n : Int) (hh : I64 h) (hl : U64 l) (hn : I64 n) (w : World) :
    Calls Tryd.prog 14 #[.agg #[.int .i64 h, .int .u64 l], .int .i64 n] w fun e w' =>
      e = .returned (.tuple #[.agg #[.int .i64 (wH (val h l * n)), .int .u64 (wL (val h l * n))], .int .i64 (wE (val h l * n))]) ∧ Below w.heap.size w w' := by
  obtain ⟨u1, u2⟩ := absW_halves hh hl
  obtain ⟨a1, a2⟩ := abs_n hn
  have hoH := wH_I64 n
  have hoL := wL_U64 n
  have A1 := Lib.hid a1
  clear a1
  have hP : 0 ≤ absW (val h l) * absW n := Int.mul_nonneg (absW_nonneg _) (absW_nonneg _)
  have T := fun W => times_any (mH (absW (val h l))) (mL (absW (val h l))) (absW n) 0 u1 u2 a2 (by unfold U64; omega) W
  simp only [val_mag, Int.add_zero] at T
  cases hf : fitsM (absW (val h l) * absW n)
  · have HO := Lib.hid (scale_out hf)
    simp only [hf, keepM_no hf] at T
    have T := Lib.hid T
    clear hf
    go_enter Tryd.func14, Tryd.ntmps14
    have R0 := Own.new2 w (.cells #[.int .i64 h, .int .u64 l] 24) (.int .i64 0) (.int .u64 0) 24
    go_wp2_with fail
    refine (split_any h l hh hl _).mono ?_
    rintro e w1 ⟨rfl, hb1⟩
    have R1 := R0.keep hb1
    have s1 := R1.lt
    have B1 := btr (bal (bal (bref w) _) _) hb1
    clear R0 hb1
    have M1 := Own.new w1 (.int .u64 (mH (absW (val h l)))) (.int .u64 (mL (absW (val h l)))) 53
    have R1' := R1.al (.cells #[.int .u64 (mH (absW (val h l))), .int .u64 (mL (absW (val h l)))] 53)
    go_wp2_with fail
    refine (of_any n hn _).mono ?_
    rintro e w2 ⟨rfl, hb2⟩
    have M2 := M1.keep hb2
    have R2 := R1'.keep hb2
    have s2 := M2.lt
    have B2 := btr (bal B1 _) hb2
    clear M1 R1 R1' B1 hb2
    go_wp2_with fail
    refine (split_any _ _ hoH hoL _).mono ?_
    rintro e w3 ⟨rfl, hb3⟩
    have M3 := M2.keep hb3
    have R3 := R2.keep hb3
    have B3 := btr B2 hb3
    have s3 := M3.lt
    clear M2 R2 B2 hb3
    obtain ⟨m0, m1, _, _⟩ := M3
    go_wp2_with fail
    have R3' := R3.al (.cells #[.int .u64 (mH (absW (val (wH n) (wL n)))), .int .u64 (mL (absW (val (wH n) (wL n))))] 53)
    rw [A1.out] at R3' ⊢
    refine (T.out _).mono ?_
    rintro e w4 ⟨rfl, hb4⟩
    have R4 := R3'.keep hb4
    have s4 := R4.lt
    have B4 := btr (bal B3 _) hb4
    clear R3 R3' B3 hb4 m0 m1
    obtain ⟨r0, r1, r2, r3⟩ := R4
    go_wp2_with fail
    refine bodyPost_ret (v := .tuple #[.agg #[.int .i64 0, .int .u64 0], .int .i64 6]) (by simp [results, Tryd.results14, go_sem, r0, r1, s4]) rfl ⟨by rw [wH_out HO.out, wL_out HO.out, wE_out HO.out], by repeat (first | exact B4 | refine bal ?_ _ | refine bset ?_ (by simp; done) _)⟩
  · have hb := signed_mul (val h l) n
    have d1 : decide (val h l < 0) = decide (h < 0) := by rw [decide_eq_decide]; exact (neg_h hl).symm
    have d2 : decide (n < 0) = decide (wH n < 0) := by rw [decide_eq_decide]; exact (neg_n hn).symm
    rw [d1, d2] at hb
    have hb' : signed (!(decide (h < 0) == decide (wH n < 0))) (absW (val h l) * absW n) = val h l * n := hb
    have HB := Lib.hid hb'
    simp only [hf, keepM_yes hf] at T
    have T := Lib.hid T
    have J := fun b W => join_any (mH (absW (val h l) * absW n)) (mL (absW (val h l) * absW n)) b (by have := mH_keep_U64 hP; rwa [keepM_yes hf] at this) (mL_U64 _) W
    simp only [val_mag] at J
    have J := Lib.hid J
    clear hb hb' d1 d2
    clear hf
    go_enter Tryd.func14, Tryd.ntmps14
    have R0 := Own.new2 w (.cells #[.int .i64 h, .int .u64 l] 24) (.int .i64 0) (.int .u64 0) 24
    go_wp2_with fail
    refine (split_any h l hh hl _).mono ?_
    rintro e w1 ⟨rfl, hb1⟩
    have R1 := R0.keep hb1
    have s1 := R1.lt
    have B1 := btr (bal (bal (bref w) _) _) hb1
    clear R0 hb1
    have M1 := Own.new w1 (.int .u64 (mH (absW (val h l)))) (.int .u64 (mL (absW (val h l)))) 53
    have R1' := R1.al (.cells #[.int .u64 (mH (absW (val h l))), .int .u64 (mL (absW (val h l)))] 53)
    go_wp2_with fail
    refine (of_any n hn _).mono ?_
    rintro e w2 ⟨rfl, hb2⟩
    have M2 := M1.keep hb2
    have R2 := R1'.keep hb2
    have s2 := M2.lt
    have B2 := btr (bal B1 _) hb2
    clear M1 R1 R1' B1 hb2
    go_wp2_with fail
    refine (split_any _ _ hoH hoL _).mono ?_
    rintro e w3 ⟨rfl, hb3⟩
    have M3 := M2.keep hb3
    have R3 := R2.keep hb3
    have B3 := btr B2 hb3
    have s3 := M3.lt
    clear M2 R2 B2 hb3
    obtain ⟨m0, m1, _, _⟩ := M3
    go_wp2_with fail
    have R3' := R3.al (.cells #[.int .u64 (mH (absW (val (wH n) (wL n)))), .int .u64 (mL (absW (val (wH n) (wL n))))] 53)
    rw [A1.out] at R3' ⊢
    refine (T.out _).mono ?_
    rintro e w4 ⟨rfl, hb4⟩
    have R4 := R3'.keep hb4
    have s4 := R4.lt
    have B4 := btr (bal B3 _) hb4
    clear R3 R3' B3 hb4 m0 m1
    have R4' := R4.al (.cells #[.int .u64 (mH (absW (val h l) * absW n)), .int .u64 (mL (absW (val h l) * absW n))] 53)
    go_wp2_with fail
    refine (J.out _ _).mono ?_
    rintro e w5 ⟨rfl, hb5⟩
    have R5 := R4'.keep hb5
    have s5 := R5.lt
    have B5 := btr (bal B4 _) hb5
    clear R4 R4' B4 hb5
    obtain ⟨r0, r1, r2, r3⟩ := R5
    go_wp2_with fail
    rw [HB.out]
    refine bodyPost_ret (v := .tuple #[.agg #[.int .i64 (wH (val h l * n)), .int .u64 (wL (val h l * n))], .int .i64 (wE (val h l * n))]) (by simp [results, Tryd.results14, go_sem, r0, r1]) rfl ⟨rfl, by repeat (first | exact B5 | refine bal ?_ _ | refine bset ?_ (by simp; done) _)⟩

/-- Mul. -/
theorem mul_any (a b : Int) (ha : I64 a) (hb : I64 b) (w : World) :
    Calls Tryd.prog 45 #[.int .i64 a, .int .i64 b] w fun e w' => e = .returned (.agg #[.int .i64 (wH (a * b)), .int .u64 (wL (a * b))]) ∧ Below w.heap.size w w' := by
  have S := fun W => scale_any (wH a) (wL a) b (wH_I64 a) (wL_U64 a) hb W
  rw [val_w (inW_I64 ha)] at S
  have S := Lib.hid S
  go_enter Tryd.func45, Tryd.ntmps45
  have R0 := Own.new w (.int .i64 0) (.int .u64 0) 24
  go_wp2_with fail
  refine (of_any a ha _).mono ?_
  rintro e w1 ⟨rfl, hb1⟩
  have R1 := R0.keep hb1
  have s1 := R1.lt
  have B1 := btr (bal (bref w) _) hb1
  clear R0 hb1
  go_wp2_with fail
  refine (S.out _).mono ?_
  rintro e w2 ⟨rfl, hb2⟩
  have R2 := R1.keep hb2
  have s2 := R2.lt
  have B2 := btr B1 hb2
  clear R1 hb2 B1
  obtain ⟨r0, r1, r2, r3⟩ := R2
  go_wp2_with fail
  refine bodyPost_ret (v := .agg #[.int .i64 (wH (a * b)), .int .u64 (wL (a * b))]) (by simp [results, Tryd.results45, go_sem, r0, r1, s2]) rfl ⟨rfl, by repeat (first | exact B2 | refine bal ?_ _ | refine bset ?_ (by simp; done) _)⟩
end Go.Proofs.YtjhfbnndapopgaaDoor
