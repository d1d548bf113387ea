/-
  Contracts of package wide's divide and Div.
-/
import Derived.Test.YtjhfbnndapopgaaDoorWalkC
import Derived.Test.YtjhfbnndapopgaaDoorDiv64
import Derived.Test.YtjhfbnndapopgaaDoorMath
namespace Go.Proofs.YtjhfbnndapopgaaDoor
open Go Go.RowKit WM

theorem divide_any (h l d : Int) (hh : U64 h) (hl : U64 l) (hd0 : 0 < d) (hd : U64 d) (w : World) :
    Calls Tryd.prog 42 #[.agg #[.int .u64 h, .int .u64 l], .int .u64 d] w fun e w' =>
      e = .returned (.tuple #[.agg #[.int .u64 (mH (val h l / d)), .int .u64 (mL (val h l / d))], .int .u64 (val h l % d)]) ∧ Below w.heap.size w w' := by
  have m0 := Int.emod_nonneg h (Int.ne_of_gt hd0)
  have m1 := Int.emod_lt_of_pos h hd0
  obtain ⟨d1, d2, d3⟩ := divide_eq (h := h) (l := l) hd0 hl hd
  have D := fun W => div64_any (h % d) l d m0 m1 hl hd W
  have D := Lib.hid D
  have D1 := Lib.hid d1; have D2 := Lib.hid d2; have D3 := Lib.hid d3
  have hz : (d == 0) = false := by rw [beq_eq_false_iff_ne]; omega
  have h0 : 0 ≤ h := hh.1
  have hq : IntKind.u64.wrap (h.tdiv d) = h / d := by
    rw [Int.tdiv_eq_ediv_of_nonneg h0, IntKind.wrap_u64]
    have e1 := Int.ediv_nonneg h0 (Int.le_of_lt hd0)
    have e2 := Int.ediv_le_self d h0
    unfold U64 at hh; omega
  clear d1 d2 d3 m0 m1
  go_enter Tryd.func42, Tryd.ntmps42
  go_wp2_with fail
  have R0 := Own.new2 w (.cells #[.int .u64 h, .int .u64 l] 53) (.int .u64 0) (.int .u64 0) 53
  go_quiet (fail)
  have R0' := R0.drN nq
  go_wp2_with fail
  refine (D.out _).mono ?_
  rintro e w1 ⟨rfl, hb1⟩
  have R1 := R0'.keep hb1
  have s1 := R1.lt
  have B1 := btr (bdn (bal (bal (bref w) _) _) nq) hb1
  clear R0 R0' hb1
  obtain ⟨r0, r1, r2, r3⟩ := R1
  go_wp2_with fail
  refine bodyPost_ret (v := .tuple #[.agg #[.int .u64 (h / d), .int .u64 (val (h % d) l / d)], .int .u64 (val (h % d) l % d)]) (by simp [results, Tryd.results42, go_sem, r0, r1]) rfl ⟨by rw [D1.out, D2.out, D3.out], by repeat (first | exact B1 | refine bal ?_ _ | refine bset ?_ (by simp; done) _)⟩

set_option maxHeartbeats 2000000 in
/-- Div. -/
theorem div_any (h l n : Int) (hh : I64 h) (hl : U64 l) (hn : I64 n) (hn1 : 1 ≤ n) (w : World) :
    Calls Tryd.prog 12 #[.agg #[.int .i64 h, .int .u64 l], .int .i64 n] w fun e w' =>
      e = .returned (.tuple #[.agg #[.int .i64 (wH (val h l / n)), .int .u64 (wL (val h l / n))], .int .i64 (val h l % n), .int .i64 0]) ∧ Below w.heap.size w w' := by
  obtain ⟨u1, u2⟩ := absW_halves hh hl
  have hnU : U64 n := by unfold I64 U64 at *; omega
  have hV := (inW_iff _).1 (inW_val hh hl)
  obtain ⟨q0, q1, r0, r1, z1, z2, z3⟩ := div_signs (v := val h l) (n := n) (by omega) hV
  have D := fun W => divide_any (mH (absW (val h l))) (mL (absW (val h l))) n u1 u2 (by omega) hnU W
  simp only [val_mag] at D
  obtain ⟨q, hq⟩ : ∃ q, absW (val h l) / n = q := ⟨_, rfl⟩
  obtain ⟨r, hr⟩ : ∃ r, absW (val h l) % n = r := ⟨_, rfl⟩
  simp only [hq, hr] at D q0 q1 r0 r1 z1 z2 z3
  clear hq hr
  have D := Lib.hid D
  have hw : IntKind.u64.wrap n = n := by rw [IntKind.wrap_u64]; unfold U64 at hnU; omega
  have hn2 : n ≤ 9223372036854775807 := hn.2
  have hq0 : U64 (mH q) := mH_U64 q0 (by omega)
  by_cases c1 : h < 0
  · have hd : decide (h < 0) = true := by simpa using c1
    have hv := (neg_h hl).1 c1
    by_cases c2 : r = 0
    · obtain ⟨e1, e2⟩ := z2 hv c2
      have E1 := Lib.hid e1
      have J := fun W => join_any (mH q) (mL q) true hq0 (mL_U64 q) W
      simp only [val_mag] at J
      have J := Lib.hid J
      subst c2
      have E2 := Lib.hid e2
      clear z1 z2 z3 e1 e2 hV
      go_enter Tryd.func12, Tryd.ntmps12
      have R0 := Own.new2 w (.cells #[.int .i64 h, .int .u64 l] 24) (.int .i64 0) (.int .u64 0) 24
      go_wp2_with fail
      refine (split_any h l hh hl _).mono ?_
      rw [hd]
      rintro e w1 ⟨rfl, hb1⟩
      have R1 := R0.keep hb1
      have s1 := R1.lt
      have B1 := btr (bal (bal (bref w) _) _) hb1
      clear R0 hb1
      have R1' := R1.al (.cells #[.int .u64 (mH (absW (val h l))), .int .u64 (mL (absW (val h l)))] 53)
      go_wp2_with fail
      refine (D.out _).mono ?_
      rintro e w2 ⟨rfl, hb2⟩
      have R2 := R1'.keep hb2
      have s2 := R2.lt
      have B2 := btr (bal B1 _) hb2
      clear R1 R1' B1 hb2
      have R2' := R2.al (.cells #[.int .u64 (mH q), .int .u64 (mL q)] 53)
      have M2 := Own.new w2 (.int .u64 (mH q)) (.int .u64 (mL q)) 53
      go_wp2_with fail
      refine (J.out _).mono ?_
      rintro e w3 ⟨rfl, hb3⟩
      have R3 := R2'.keep hb3
      have s3 := R3.lt
      have B3 := btr (bal B2 _) hb3
      clear R2 R2' B2 hb3
      obtain ⟨r0, r1, r2, r3⟩ := R3
      go_wp2_with fail
      refine bodyPost_ret (v := .tuple #[.agg #[.int .i64 (wH (signed true q)), .int .u64 (wL (signed true q))], .int .i64 0, .int .i64 0]) (by simp [results, Tryd.results12, go_sem, r0, r1, s3]) rfl ⟨by rw [E1.out, ← E2.out], by repeat (first | exact B3 | refine bal ?_ _ | refine bset ?_ (by simp; done) _)⟩
    · obtain ⟨e1, e2⟩ := z3 hv c2
      have E1 := Lib.hid e1; have E2 := Lib.hid e2
      have hr0 : (r == 0) = false := by rw [beq_eq_false_iff_ne]; exact c2
      have hf : fitsM (q + 1) = true := by simp only [fitsM, decide_eq_true_eq]; omega
      have T := fun W => times_any (mH q) (mL q) 1 1 hq0 (mL_U64 q) (by unfold U64; omega) (by unfold U64; omega) W
      simp only [val_mag, keepM_yes hf, hf, Int.mul_one] at T
      have T := Lib.hid T
      have J := fun W => join_any (mH (q + 1)) (mL (q + 1)) true (mH_U64 (by omega) (by omega)) (mL_U64 _) W
      simp only [val_mag] at J
      have J := Lib.hid J
      clear z1 z2 z3 e1 e2 hV c2 hf
      go_enter Tryd.func12, Tryd.ntmps12
      have R0 := Own.new2 w (.cells #[.int .i64 h, .int .u64 l] 24) (.int .i64 0) (.int .u64 0) 24
      go_wp2_with fail
      refine (split_any h l hh hl _).mono ?_
      rw [hd]
      rintro e w1 ⟨rfl, hb1⟩
      have R1 := R0.keep hb1
      have s1 := R1.lt
      have B1 := btr (bal (bal (bref w) _) _) hb1
      clear R0 hb1
      have R1' := R1.al (.cells #[.int .u64 (mH (absW (val h l))), .int .u64 (mL (absW (val h l)))] 53)
      go_wp2_with fail
      refine (D.out _).mono ?_
      rintro e w2 ⟨rfl, hb2⟩
      have R2 := R1'.keep hb2
      have s2 := R2.lt
      have B2 := btr (bal B1 _) hb2
      clear R1 R1' B1 hb2
      have R2' := R2.al (.cells #[.int .u64 (mH q), .int .u64 (mL q)] 53)
      have M2 := Own.new w2 (.int .u64 (mH q)) (.int .u64 (mL q)) 53
      go_wp2_with fail
      refine (T.out _).mono ?_
      rintro e w3 ⟨rfl, hb3⟩
      have R3 := R2'.keep hb3
      have M3 := M2.keep hb3
      have s3 := M3.lt
      have B3 := btr (bal B2 _) hb3
      clear R2 R2' B2 hb3 M2
      obtain ⟨m0, m1, m2, m3⟩ := M3
      go_wp2_with fail
      have R3' := (R3.far (p := ⟨w2.heap.size, 0, none⟩) (by simp; omega) (.int .u64 (mH (q + 1)))).far (p := ⟨w2.heap.size, 1, none⟩) (by simp; omega) (.int .u64 (mL (q + 1)))
      have B3' := bset (bset B3 (p := ⟨w2.heap.size, 0, none⟩) (by simp; omega) (.int .u64 (mH (q + 1)))) (p := ⟨w2.heap.size, 1, none⟩) (by simp; omega) (.int .u64 (mL (q + 1)))
      refine (J.out _).mono ?_
      rintro e w4 ⟨rfl, hb4⟩
      have R4 := R3'.keep hb4
      have s4 := R4.lt
      have B4 := btr B3' hb4
      clear R3 R3' B3 B3' hb4 m0 m1 m2 m3
      obtain ⟨r0, r1, r2, r3⟩ := R4
      go_wp2_with fail
      refine bodyPost_ret (v := .tuple #[.agg #[.int .i64 (wH (signed true (q + 1))), .int .u64 (wL (signed true (q + 1)))], .int .i64 (n - r), .int .i64 0]) (by simp [results, Tryd.results12, go_sem, r0, r1, s4]) rfl ⟨by rw [E1.out, ← E2.out], by repeat (first | exact B4 | refine bal ?_ _ | refine bset ?_ (by simp; done) _)⟩
  · have hd : decide (h < 0) = false := by simpa using c1
    have hv : 0 ≤ val h l := by have := (neg_h (h := h) hl); omega
    obtain ⟨e1, e2⟩ := z1 hv
    have E1 := Lib.hid e1; have E2 := Lib.hid e2
    have J := fun W => join_any (mH q) (mL q) false hq0 (mL_U64 q) W
    simp only [val_mag] at J
    have J := Lib.hid J
    clear z1 z2 z3 e1 e2 hV
    go_enter Tryd.func12, Tryd.ntmps12
    have R0 := Own.new2 w (.cells #[.int .i64 h, .int .u64 l] 24) (.int .i64 0) (.int .u64 0) 24
    go_wp2_with fail
    refine (split_any h l hh hl _).mono ?_
    rw [hd]
    rintro e w1 ⟨rfl, hb1⟩
    have R1 := R0.keep hb1
    have s1 := R1.lt
    have B1 := btr (bal (bal (bref w) _) _) hb1
    clear R0 hb1
    have R1' := R1.al (.cells #[.int .u64 (mH (absW (val h l))), .int .u64 (mL (absW (val h l)))] 53)
    go_wp2_with fail
    refine (D.out _).mono ?_
    rintro e w2 ⟨rfl, hb2⟩
    have R2 := R1'.keep hb2
    have s2 := R2.lt
    have B2 := btr (bal B1 _) hb2
    clear R1 R1' B1 hb2
    have R2' := R2.al (.cells #[.int .u64 (mH q), .int .u64 (mL q)] 53)
    have M2 := Own.new w2 (.int .u64 (mH q)) (.int .u64 (mL q)) 53
    go_wp2_with fail
    refine (J.out _).mono ?_
    rintro e w3 ⟨rfl, hb3⟩
    have R3 := R2'.keep hb3
    have s3 := R3.lt
    have B3 := btr (bal B2 _) hb3
    clear R2 R2' B2 hb3
    obtain ⟨r0, r1, r2, r3⟩ := R3
    go_wp2_with fail
    refine bodyPost_ret (v := .tuple #[.agg #[.int .i64 (wH (signed false q)), .int .u64 (wL (signed false q))], .int .i64 r, .int .i64 0]) (by simp [results, Tryd.results12, go_sem, r0, r1, s3]) rfl ⟨by rw [E1.out, ← E2.out], by repeat (first | exact B3 | refine bal ?_ _ | refine bset ?_ (by simp; done) _)⟩

theorem div_no (h l n : Int) (hn1 : n < 1) (w : World) :
    Calls Tryd.prog 12 #[.agg #[.int .i64 h, .int .u64 l], .int .i64 n] w fun e w' =>
      e = .returned (.tuple #[.agg #[.int .i64 0, .int .u64 0], .int .i64 0, .int .i64 1]) ∧ Below w.heap.size w w' := by
  go_enter Tryd.func12, Tryd.ntmps12
  go_wp2_with fail
  refine bodyPost_ret (v := .tuple #[.agg #[.int .i64 0, .int .u64 0], .int .i64 0, .int .i64 1]) (by simp [results, Tryd.results12, go_sem]) rfl ⟨rfl, by repeat (first | exact bref _ | refine bal ?_ _ | refine bset ?_ (by simp; done) _)⟩
end Go.Proofs.YtjhfbnndapopgaaDoor
