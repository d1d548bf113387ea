/-
  Contracts of the document's own Add, Sub, Int and Cmp.
-/
import Derived.Test.YtjhfbnndapopgaaDoorRefC
namespace Go.Proofs.YtjhfbnndapopgaaDoor
open Go Go.RowKit WM
attribute [local go_sem ↓] Go.wp_at_zero Go.wp_at_succ

set_option maxHeartbeats 2000000 in
theorem radd_any (ha la hb lb : Int) (h1 : I64 ha) (h2 : U64 la) (h3 : I64 hb) (h4 : U64 lb) (w : World) :
    Calls Tryd.prog 25 #[.agg #[.int .i64 ha, .int .u64 la], .agg #[.int .i64 hb, .int .u64 lb]] w fun e w' =>
      e = .returned (.tuple #[.agg #[.int .i64 (wH (val ha la + val hb lb)), .int .u64 (wL (val ha la + val hb lb))], .int .i64 (wE (val ha la + val hb lb))]) ∧ Below w.heap.size w w' := by
  obtain ⟨u1, u2⟩ := absW_halves h1 h2
  obtain ⟨u3, u4⟩ := absW_halves h3 h4
  have hs : signed (decide (ha < 0)) (absW (val ha la)) + signed (decide (hb < 0)) (absW (val hb lb)) = val ha la + val hb lb := by
    have n1 := neg_h (h := ha) h2
    have n2 := neg_h (h := hb) h4
    by_cases c1 : ha < 0 <;> by_cases c2 : hb < 0 <;> simp only [signed, absW, c1, c2, decide_true, decide_false, Bool.false_eq_true, if_true, if_false] <;> split <;> split <;> omega
  have S := fun W => rsum_any (decide (ha < 0)) (decide (hb < 0)) (mH (absW (val ha la))) (mL (absW (val ha la))) (mH (absW (val hb lb))) (mL (absW (val hb lb))) u1 u2 u3 u4 W
  simp only [val_mag, hs] at S
  obtain ⟨V, hV⟩ : ∃ V, val ha la + val hb lb = V := ⟨_, rfl⟩
  rw [hV]
  simp only [hV] at S
  obtain ⟨n1, hn1⟩ : ∃ b, decide (ha < 0) = b := ⟨_, rfl⟩
  obtain ⟨n2, hn2⟩ : ∃ b, decide (hb < 0) = b := ⟨_, rfl⟩
  have P1 := fun W => rsplit_any ha la h1 h2 W
  have P2 := fun W => rsplit_any hb lb h3 h4 W
  simp only [hn1, hn2] at S P1 P2
  have S := Lib.hid S; have P1 := Lib.hid P1; have P2 := Lib.hid P2
  clear hs hV hn1 hn2 u1 u2 u3 u4
  go_enter Tryd.func25, Tryd.ntmps25
  go_wp2_with fail
  refine (P1.out _).mono ?_
  rintro e w1 ⟨rfl, q1⟩
  have B1 : Own w1 (w.heap.size + 1) (.int .i64 hb) (.int .u64 lb) := Own.keep (by refine ⟨?_, ?_, ?_, ?_⟩ <;> simp [go_sem]) q1
  have R1 : Own w1 (w.heap.size + 1 + 1) (.int .i64 0) (.int .u64 0) := Own.keep (by refine ⟨?_, ?_, ?_, ?_⟩ <;> simp [go_sem]) q1
  have Z1 : Below w.heap.size w w1 := btr (by repeat (first | exact bref _ | refine bdr ?_ | refine bal ?_ _)) q1
  have s1 := R1.lt
  have s0 := B1.lt
  have BX := B1
  obtain ⟨b0, b1, _, _⟩ := BX
  go_wp2_with fail
  refine (P2.out _).mono ?_
  rintro e w2 ⟨rfl, q2⟩
  have R2 : Own w2 (w.heap.size + 1 + 1) (.int .i64 0) (.int .u64 0) := Own.keep (R1.al _) q2
  have M2 : Own w2 w1.heap.size (.int .u64 (mH (absW (val ha la)))) (.int .u64 (mL (absW (val ha la)))) := Own.keep (Own.new _ _ _ _) q2
  have Z2 : Below w.heap.size w w2 := btr (bal Z1 _) q2
  have s2 := M2.lt
  clear R1 Z1 B1 b0 b1 q1 q2
  obtain ⟨m0, m1, _, _⟩ := M2
  go_wp2_with fail
  refine (S.out _).mono ?_
  rintro e w3 ⟨rfl, q3⟩
  have R3 : Own w3 (w.heap.size + 1 + 1) (.int .i64 0) (.int .u64 0) := Own.keep (R2.al _) q3
  have Z3 : Below w.heap.size w w3 := btr (bal Z2 _) q3
  clear R2 Z2 m0 m1 q3
  obtain ⟨r0, r1, r2, r3⟩ := R3
  go_wp2_with fail
  refine bodyPost_ret (v := .tuple #[.agg #[.int .i64 (wH V), .int .u64 (wL V)], .int .i64 (wE V)]) (by simp [results, Tryd.results25, go_sem, r0, r1]) rfl ⟨rfl, ?_⟩
  (repeat (first | exact Z3 | refine bal ?_ _ | refine bset ?_ (by dsimp only; omega) _))

set_option maxHeartbeats 2000000 in
theorem rsub_any (ha la hb lb : Int) (h1 : I64 ha) (h2 : U64 la) (h3 : I64 hb) (h4 : U64 lb) (w : World) :
    Calls Tryd.prog 35 #[.agg #[.int .i64 ha, .int .u64 la], .agg #[.int .i64 hb, .int .u64 lb]] w fun e w' =>
      e = .returned (.tuple #[.agg #[.int .i64 (wH (val ha la - val hb lb)), .int .u64 (wL (val ha la - val hb lb))], .int .i64 (wE (val ha la - val hb lb))]) ∧ Below w.heap.size w w' := by
  obtain ⟨u1, u2⟩ := absW_halves h1 h2
  obtain ⟨u3, u4⟩ := absW_halves h3 h4
  have hs : signed (decide (ha < 0)) (absW (val ha la)) + signed (!decide (hb < 0)) (absW (val hb lb)) = val ha la - val hb lb := by
    have n1 := neg_h (h := ha) h2
    have n2 := neg_h (h := hb) h4
    by_cases c1 : ha < 0 <;> by_cases c2 : hb < 0 <;> simp only [signed, absW, c1, c2, decide_true, decide_false, Bool.not_true, Bool.not_false, Bool.false_eq_true, if_true, if_false] <;> split <;> split <;> omega
  have S := fun W => rsum_any (decide (ha < 0)) (!decide (hb < 0)) (mH (absW (val ha la))) (mL (absW (val ha la))) (mH (absW (val hb lb))) (mL (absW (val hb lb))) u1 u2 u3 u4 W
  simp only [val_mag, hs] at S
  obtain ⟨V, hV⟩ : ∃ V, val ha la - val hb lb = V := ⟨_, rfl⟩
  rw [hV]
  simp only [hV] at S
  obtain ⟨n1, hn1⟩ : ∃ b, decide (ha < 0) = b := ⟨_, rfl⟩
  obtain ⟨n2, hn2⟩ : ∃ b, decide (hb < 0) = b := ⟨_, rfl⟩
  have P1 := fun W => rsplit_any ha la h1 h2 W
  have P2 := fun W => rsplit_any hb lb h3 h4 W
  simp only [hn1, hn2] at S P1 P2
  have S := Lib.hid S; have P1 := Lib.hid P1; have P2 := Lib.hid P2
  clear hs hV hn1 hn2 u1 u2 u3 u4
  go_enter Tryd.func35, Tryd.ntmps35
  go_wp2_with fail
  refine (P1.out _).mono ?_
  rintro e w1 ⟨rfl, q1⟩
  have B1 : Own w1 (w.heap.size + 1) (.int .i64 hb) (.int .u64 lb) := Own.keep (by refine ⟨?_, ?_, ?_, ?_⟩ <;> simp [go_sem]) q1
  have R1 : Own w1 (w.heap.size + 1 + 1) (.int .i64 0) (.int .u64 0) := Own.keep (by refine ⟨?_, ?_, ?_, ?_⟩ <;> simp [go_sem]) q1
  have Z1 : Below w.heap.size w w1 := btr (by repeat (first | exact bref _ | refine bdr ?_ | refine bal ?_ _)) q1
  have s1 := R1.lt
  have s0 := B1.lt
  have BX := B1
  obtain ⟨b0, b1, _, _⟩ := BX
  go_wp2_with fail
  refine (P2.out _).mono ?_
  rintro e w2 ⟨rfl, q2⟩
  have R2 : Own w2 (w.heap.size + 1 + 1) (.int .i64 0) (.int .u64 0) := Own.keep (R1.al _) q2
  have M2 : Own w2 w1.heap.size (.int .u64 (mH (absW (val ha la)))) (.int .u64 (mL (absW (val ha la)))) := Own.keep (Own.new _ _ _ _) q2
  have Z2 : Below w.heap.size w w2 := btr (bal Z1 _) q2
  have s2 := M2.lt
  clear R1 Z1 B1 b0 b1 q1 q2
  obtain ⟨m0, m1, _, _⟩ := M2
  go_wp2_with fail
  refine (S.out _).mono ?_
  rintro e w3 ⟨rfl, q3⟩
  have R3 : Own w3 (w.heap.size + 1 + 1) (.int .i64 0) (.int .u64 0) := Own.keep (R2.al _) q3
  have Z3 : Below w.heap.size w w3 := btr (bal Z2 _) q3
  clear R2 Z2 m0 m1 q3
  obtain ⟨r0, r1, r2, r3⟩ := R3
  go_wp2_with fail
  refine bodyPost_ret (v := .tuple #[.agg #[.int .i64 (wH V), .int .u64 (wL V)], .int .i64 (wE V)]) (by simp [results, Tryd.results35, go_sem, r0, r1]) rfl ⟨rfl, ?_⟩
  (repeat (first | exact Z3 | refine bal ?_ _ | refine bset ?_ (by dsimp only; omega) _))

end Go.Proofs.YtjhfbnndapopgaaDoor
