/-
  The contract of the document's own Div.
-/
import Derived.Test.YtjhfbnndapopgaaDoorRefQ
import Derived.Test.YtjhfbnndapopgaaDoorMath
namespace Go.Proofs.YtjhfbnndapopgaaDoor
open Go Go.RowKit WM

set_option maxRecDepth 100000 in
set_option maxHeartbeats 4000000 in
theorem rdiv_any (a l n : Int) (hh : I64 a) (hl : U64 l) (hn : I64 n) (hn1 : 1 ≤ n) (w : World) :
    Calls Tryd.prog 38 #[.agg #[.int .i64 a, .int .u64 l], .int .i64 n] w fun e w' =>
      e = .returned (.tuple #[.agg #[.int .i64 (wH (val a l / n)), .int .u64 (wL (val a l / n))], .int .i64 (val a l % n), .int .i64 0]) ∧ Below w.heap.size w w' := by
  obtain ⟨u1, u2⟩ := absW_halves hh hl
  have hV := (inW_iff _).1 (inW_val hh hl)
  obtain ⟨q0, q1, r0, r1, z1, z2, z3⟩ := div_signs (v := val a l) (n := n) (by omega) hV
  have hn2 : n ≤ 9223372036854775807 := hn.2
  have P1 := fun W => rsplit_any a l hh hl W
  have D := fun W => rquot_any (mH (absW (val a l))) (mL (absW (val a l))) n u1 u2 hn1 hn2 W
  simp only [val_mag] at D
  have hQI : inW (val a l / n) = true := by
    have := div_parts hn1 hn (inW_val hh hl)
    exact this.1
  obtain ⟨q, hq⟩ : ∃ q, absW (val a l) / n = q := ⟨_, rfl⟩
  obtain ⟨r, hr⟩ : ∃ r, absW (val a l) % n = r := ⟨_, rfl⟩
  simp only [hq, hr] at D q0 q1 r0 r1 z1 z2 z3
  obtain ⟨MH, hMH⟩ : ∃ x, mH (absW (val a l)) = x := ⟨_, rfl⟩
  obtain ⟨ML, hML⟩ : ∃ x, mL (absW (val a l)) = x := ⟨_, rfl⟩
  simp only [hMH, hML] at D P1
  obtain ⟨VQ, hVQ⟩ : ∃ x, val a l / n = x := ⟨_, rfl⟩
  obtain ⟨VR, hVR⟩ : ∃ x, val a l % n = x := ⟨_, rfl⟩
  rw [hVQ, hVR] at z1 z2 z3
  rw [hVQ] at hQI
  rw [hVQ, hVR]
  have hw : IntKind.u64.wrap n = n := by rw [IntKind.wrap_u64]; omega
  have hnc : ¬ n < 1 := by omega
  have hsg := neg_h (h := a) hl
  have D := Lib.hid D
  have Q0 := Lib.hid q0; have Q1 := Lib.hid q1; have HQI := Lib.hid hQI
  clear hMH hML hVQ hVR hq hr hV u1 u2 q0 q1 hQI
  by_cases c1 : a < 0
  · have hv := hsg.1 c1
    by_cases c2 : r = 0
    · have hd : decide (a < 0) = true := by simpa using c1
      rw [hd] at P1
      have P1 := Lib.hid P1
      obtain ⟨e1, e2⟩ := z2 hv c2
      subst c2
      have hrI : IntKind.i64.wrap 0 = 0 := by decide
      have E2 := Lib.hid e2
      obtain ⟨j1, j2⟩ := j_fits (b := true) (v := q) (by have := Q0.out; omega) (by have := Q1.out; omega) (by rw [e1]; exact HQI.out)
      have J := fun W => rjoin_any true (mH (q)) (mL (q)) (mH_U64 (by have := Q0.out; omega) (by have := Q1.out; omega)) (mL_U64 _) W
      simp only [val_mag, e1, HQI.out, j1, j2] at J
      have J := Lib.hid J
      clear j1 j2
      clear e1 e2
      clear z1 z2 z3 hd c1 hsg hv hrI
      go_enter Tryd.func38, Tryd.ntmps38
      go_wp2_with fail
      refine (P1.out _).mono ?_
      rintro e w1 ⟨rfl, q1⟩
      have R1 : Own w1 (w.heap.size + 1) (.int .i64 0) (.int .u64 0) := Own.keep (by refine ⟨?_, ?_, ?_, ?_⟩ <;> simp [go_sem]) q1
      have Z1 : Below w.heap.size w w1 := btr (by repeat (first | exact bref _ | refine bal ?_ _)) q1
      have s1 := R1.lt
      clear q1
      go_wp2_with fail
      refine (D.out _).mono ?_
      rintro e w2 ⟨rfl, q2⟩
      have R2 : Own w2 (w.heap.size + 1) (.int .i64 0) (.int .u64 0) := Own.keep (R1.al _) q2
      have Z2 : Below w.heap.size w w2 := btr (bal Z1 _) q2
      have s2 := R2.lt
      clear R1 Z1 q2
      have RL := R2; have ZL := Z2
      clear R2 Z2
      go_wp2_with fail
      refine (J.out _).mono ?_
      rintro e w5 ⟨rfl, q5⟩
      have R5 : Own w5 (w.heap.size + 1) (.int .i64 0) (.int .u64 0) := Own.keep (by repeat (first | exact RL | refine Own.al ?_ _ | refine Own.far ?_ (by dsimp only; omega) _)) q5
      have Z5 : Below w.heap.size w w5 := btr (by repeat (first | exact ZL | refine bal ?_ _ | refine bset ?_ (by dsimp only; omega) _)) q5
      have s5 := R5.lt
      clear RL ZL q5
      obtain ⟨r0, r1, r2, r3⟩ := R5
      go_wp2_with fail
      refine bodyPost_ret (v := .tuple #[.agg #[.int .i64 (wH VQ), .int .u64 (wL VQ)], .int .i64 VR, .int .i64 0]) (by simp [results, Tryd.results38, go_sem, r0, r1, s5]; exact E2.out) rfl ⟨rfl, ?_⟩
      (repeat (first | exact Z5 | refine bal ?_ _ | refine bset ?_ (by dsimp only; omega) _))
    · have hd : decide (a < 0) = true := by simpa using c1
      rw [hd] at P1
      have P1 := Lib.hid P1
      obtain ⟨e1, e2⟩ := z3 hv c2
      have hgt : 0 < r := by omega
      have hd2 : decide (0 < r) = true := by simpa using hgt
      have E2 := Lib.hid e2
      have hf : fitsM (q + 1) = true := by simp only [fitsM, decide_eq_true_eq]; have := Q1.out; omega
      have hm1 : modM (q + 1) = q + 1 := modM_fits (by have := Q0.out; omega) hf
      have PL := fun W => rplus_any (mH q) (mL q) 0 1 (mH_U64 Q0.out (by have := Q1.out; omega)) (mL_U64 _) (by unfold U64; omega) (by unfold U64; omega) W
      have e01 : val 0 1 = 1 := by decide
      simp only [val_mag, e01, hm1, hf] at PL
      have PL := Lib.hid PL
      obtain ⟨j1, j2⟩ := j_fits (b := true) (v := q + 1) (by have := Q0.out; omega) (by have := Q1.out; omega) (by rw [e1]; exact HQI.out)
      have J := fun W => rjoin_any true (mH (q + 1)) (mL (q + 1)) (mH_U64 (by have := Q0.out; omega) (by have := Q1.out; omega)) (mL_U64 _) W
      simp only [val_mag, e1, HQI.out, j1, j2] at J
      have J := Lib.hid J
      clear j1 j2
      clear e1 e2 hm1 hf e01
      clear z1 z2 z3 hd c1 hsg hv c2
      go_enter Tryd.func38, Tryd.ntmps38
      go_wp2_with fail
      refine (P1.out _).mono ?_
      rintro e w1 ⟨rfl, q1⟩
      have R1 : Own w1 (w.heap.size + 1) (.int .i64 0) (.int .u64 0) := Own.keep (by refine ⟨?_, ?_, ?_, ?_⟩ <;> simp [go_sem]) q1
      have Z1 : Below w.heap.size w w1 := btr (by repeat (first | exact bref _ | refine bal ?_ _)) q1
      have s1 := R1.lt
      clear q1
      go_wp2_with fail
      refine (D.out _).mono ?_
      rintro e w2 ⟨rfl, q2⟩
      have R2 : Own w2 (w.heap.size + 1) (.int .i64 0) (.int .u64 0) := Own.keep (R1.al _) q2
      have Z2 : Below w.heap.size w w2 := btr (bal Z1 _) q2
      have s2 := R2.lt
      clear R1 Z1 q2
      have XL : Own (w2.alloc (.cells #[.int .u64 (mH q), .int .u64 (mL q)] 68)) w2.heap.size (.int .u64 (mH q)) (.int .u64 (mL q)) := Own.new _ _ _ _
      go_wp2_with fail
      refine (PL.out _).mono ?_
      rintro e w3 ⟨rfl, q3⟩
      have RL := (R2.al (.cells #[.int .u64 (mH q), .int .u64 (mL q)] 68)).keep q3
      have ZL := btr (bal Z2 (.cells #[.int .u64 (mH q), .int .u64 (mL q)] 68)) q3
      have X3 := XL.keep q3
      have s3 := X3.lt
      clear R2 Z2 XL q3
      obtain ⟨x0, x1, x2, x3⟩ := X3
      go_wp2_with fail
      refine (J.out _).mono ?_
      rintro e w5 ⟨rfl, q5⟩
      have R5 : Own w5 (w.heap.size + 1) (.int .i64 0) (.int .u64 0) := Own.keep (by repeat (first | exact RL | refine Own.al ?_ _ | refine Own.far ?_ (by dsimp only; omega) _)) q5
      have Z5 : Below w.heap.size w w5 := btr (by repeat (first | exact ZL | refine bal ?_ _ | refine bset ?_ (by dsimp only; omega) _)) q5
      have s5 := R5.lt
      clear RL ZL q5
      obtain ⟨r0, r1, r2, r3⟩ := R5
      go_wp2_with fail
      refine bodyPost_ret (v := .tuple #[.agg #[.int .i64 (wH VQ), .int .u64 (wL VQ)], .int .i64 VR, .int .i64 0]) (by simp [results, Tryd.results38, go_sem, r0, r1, s5]; exact E2.out) rfl ⟨rfl, ?_⟩
      (repeat (first | exact Z5 | refine bal ?_ _ | refine bset ?_ (by dsimp only; omega) _))
  · have hv : 0 ≤ val a l := by omega
    have hd : decide (a < 0) = false := by simpa using c1
    rw [hd] at P1
    have P1 := Lib.hid P1
    obtain ⟨e1, e2⟩ := z1 hv
    have E2 := Lib.hid e2
    obtain ⟨j1, j2⟩ := j_fits (b := false) (v := q) (by have := Q0.out; omega) (by have := Q1.out; omega) (by rw [e1]; exact HQI.out)
    have J := fun W => rjoin_any false (mH (q)) (mL (q)) (mH_U64 (by have := Q0.out; omega) (by have := Q1.out; omega)) (mL_U64 _) W
    simp only [val_mag, e1, HQI.out, j1, j2] at J
    have J := Lib.hid J
    clear j1 j2
    clear e1 e2
    clear z1 z2 z3 hd c1 hsg hv
    go_enter Tryd.func38, Tryd.ntmps38
    go_wp2_with fail
    refine (P1.out _).mono ?_
    rintro e w1 ⟨rfl, q1⟩
    have R1 : Own w1 (w.heap.size + 1) (.int .i64 0) (.int .u64 0) := Own.keep (by refine ⟨?_, ?_, ?_, ?_⟩ <;> simp [go_sem]) q1
    have Z1 : Below w.heap.size w w1 := btr (by repeat (first | exact bref _ | refine bal ?_ _)) q1
    have s1 := R1.lt
    clear q1
    go_wp2_with fail
    refine (D.out _).mono ?_
    rintro e w2 ⟨rfl, q2⟩
    have R2 : Own w2 (w.heap.size + 1) (.int .i64 0) (.int .u64 0) := Own.keep (R1.al _) q2
    have Z2 : Below w.heap.size w w2 := btr (bal Z1 _) q2
    have s2 := R2.lt
    clear R1 Z1 q2
    have RL := R2; have ZL := Z2
    clear R2 Z2
    go_wp2_with fail
    refine (J.out _).mono ?_
    rintro e w5 ⟨rfl, q5⟩
    have R5 : Own w5 (w.heap.size + 1) (.int .i64 0) (.int .u64 0) := Own.keep (by repeat (first | exact RL | refine Own.al ?_ _ | refine Own.far ?_ (by dsimp only; omega) _)) q5
    have Z5 : Below w.heap.size w w5 := btr (by repeat (first | exact ZL | refine bal ?_ _ | refine bset ?_ (by dsimp only; omega) _)) q5
    have s5 := R5.lt
    clear RL ZL q5
    obtain ⟨r0, r1, r2, r3⟩ := R5
    go_wp2_with fail
    refine bodyPost_ret (v := .tuple #[.agg #[.int .i64 (wH VQ), .int .u64 (wL VQ)], .int .i64 VR, .int .i64 0]) (by simp [results, Tryd.results38, go_sem, r0, r1, s5]; exact E2.out) rfl ⟨rfl, ?_⟩
    (repeat (first | exact Z5 | refine bal ?_ _ | refine bset ?_ (by dsimp only; omega) _))

theorem rdiv_no (a l n : Int) (hn1 : n < 1) (w : World) :
    Calls Tryd.prog 38 #[.agg #[.int .i64 a, .int .u64 l], .int .i64 n] w fun e w' =>
      e = .returned (.tuple #[.agg #[.int .i64 0, .int .u64 0], .int .i64 0, .int .i64 1]) ∧ Below w.heap.size w w' := by
  go_enter Tryd.func38, Tryd.ntmps38
  go_wp2_with fail
  refine bodyPost_ret (v := .tuple #[.agg #[.int .i64 0, .int .u64 0], .int .i64 0, .int .i64 1]) (by simp [results, Tryd.results38, go_sem]) rfl ⟨rfl, by repeat (first | exact bref _ | refine bal ?_ _ | refine bset ?_ (by dsimp only; omega) _)⟩
end Go.Proofs.YtjhfbnndapopgaaDoor
