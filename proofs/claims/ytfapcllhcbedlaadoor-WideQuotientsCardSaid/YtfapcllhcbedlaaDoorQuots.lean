/-
  The walks of the laws WideQuotients and WideMultiplies.
-/
import Derived.Test.YtfapcllhcbedlaaDoorLive
import Derived.Test.YtfapcllhcbedlaaDoorRefG
import Derived.Test.YtfapcllhcbedlaaDoorRefE
import Derived.Test.YtfapcllhcbedlaaDoorRefM
namespace Go.Proofs.YtfapcllhcbedlaaDoor
open Go Go.RowKit WM

set_option maxRecDepth 100000 in
set_option maxHeartbeats 4000000 in
theorem quotients_any (a l n : Int) (h1 : I64 a) (h2 : U64 l) (h5 : I64 n) (w : World) (ht : Tb w) :
    Calls Tryd.prog 5 #[.agg #[.int .i64 a, .int .u64 l], .int .i64 n] w fun e w' => e = .returned (.bool true) ∧ Below w.heap.size w w' := by
  by_cases hn : n < 1
  · have C1 := Lib.hid (fun W => div_no a l n hn W)
    have C2 := Lib.hid (fun W => rdiv_no a l n hn W)
    clear hn
    go_enter Tryd.func5, Tryd.ntmps5
    have A0 := Own.new w (.int .i64 a) (.int .u64 l) 24
    go_wp2_with fail
    refine (C1.out _).mono ?_
    rintro e w1 ⟨rfl, q1⟩
    have A1 := (A0.keep q1).al (.cells #[.int .i64 0, .int .u64 0] 24)
    have zA1 := (A0.keep q1).lt
    have P1 := Own.new w1 (.int .i64 0) (.int .u64 0) 24
    have Z1 := bal (btr (bal (bref w) _) q1) (.cells #[.int .i64 0, .int .u64 0] 24)
    clear A0 q1
    have AX := A1
    obtain ⟨fA0, fA1, _, _⟩ := AX
    have PX := P1
    obtain ⟨fP0, fP1, _, _⟩ := PX
    go_wp2_with fail
    clear fA0 fA1 fP0 fP1
    refine (C2.out _).mono ?_
    rintro e w2 ⟨rfl, q2⟩
    have A2 := (A1.keep q2).al (.cells #[.int .i64 0, .int .u64 0] 24)
    have zA2 := (A1.keep q2).lt
    have P2 := (P1.keep q2).al (.cells #[.int .i64 0, .int .u64 0] 24)
    have zP2 := (P1.keep q2).lt
    have Q2 := Own.new w2 (.int .i64 0) (.int .u64 0) 24
    have Z2 := bal (btr Z1 q2) (.cells #[.int .i64 0, .int .u64 0] 24)
    clear A1 P1 Z1 q2 zA1
    have T2 := ht.keep Z2
    have AX := A2
    obtain ⟨fA0, fA1, _, _⟩ := AX
    have PX := P2
    obtain ⟨fP0, fP1, _, _⟩ := PX
    have QX := Q2
    obtain ⟨fQ0, fQ1, _, _⟩ := QX
    go_wp2_with fail
    clear fA0 fA1 fP0 fP1 fQ0 fQ1
    refine (live_any _ T2).mono ?_
    rintro e w3 ⟨rfl, q3⟩
    have A3 := (A2.keep q3)
    have zA3 := (A2.keep q3).lt
    have P3 := (P2.keep q3)
    have zP3 := (P2.keep q3).lt
    have Q3 := (Q2.keep q3)
    have zQ3 := (Q2.keep q3).lt
    have Z3 := btr Z2 q3
    clear A2 P2 Q2 Z2 q3 zA2 zP2
    go_wp2_with fail
    go_ret
    exact ⟨rfl, Z3⟩
  · have hn1 : 1 ≤ n := by omega
    have C1 := fun W => div_any a l n h1 h2 h5 hn1 W
    have C2 := fun W => rdiv_any a l n h1 h2 h5 hn1 W
    obtain ⟨qh, hqh⟩ : ∃ x, wH (val a l / n) = x := ⟨_, rfl⟩
    obtain ⟨ql, hql⟩ : ∃ x, wL (val a l / n) = x := ⟨_, rfl⟩
    obtain ⟨r, hr⟩ : ∃ x, val a l % n = x := ⟨_, rfl⟩
    simp only [hqh, hql, hr] at C1 C2
    have C1 := Lib.hid C1; have C2 := Lib.hid C2
    clear hn hqh hql hr
    go_enter Tryd.func5, Tryd.ntmps5
    have A0 := Own.new w (.int .i64 a) (.int .u64 l) 24
    go_wp2_with fail
    refine (C1.out _).mono ?_
    rintro e w1 ⟨rfl, q1⟩
    have A1 := (A0.keep q1).al (.cells #[.int .i64 qh, .int .u64 ql] 24)
    have zA1 := (A0.keep q1).lt
    have P1 := Own.new w1 (.int .i64 qh) (.int .u64 ql) 24
    have Z1 := bal (btr (bal (bref w) _) q1) (.cells #[.int .i64 qh, .int .u64 ql] 24)
    clear A0 q1
    have AX := A1
    obtain ⟨fA0, fA1, _, _⟩ := AX
    have PX := P1
    obtain ⟨fP0, fP1, _, _⟩ := PX
    go_wp2_with fail
    clear fA0 fA1 fP0 fP1
    refine (C2.out _).mono ?_
    rintro e w2 ⟨rfl, q2⟩
    have A2 := (A1.keep q2).al (.cells #[.int .i64 qh, .int .u64 ql] 24)
    have zA2 := (A1.keep q2).lt
    have P2 := (P1.keep q2).al (.cells #[.int .i64 qh, .int .u64 ql] 24)
    have zP2 := (P1.keep q2).lt
    have Q2 := Own.new w2 (.int .i64 qh) (.int .u64 ql) 24
    have Z2 := bal (btr Z1 q2) (.cells #[.int .i64 qh, .int .u64 ql] 24)
    clear A1 P1 Z1 q2 zA1
    have T2 := ht.keep Z2
    have AX := A2
    obtain ⟨fA0, fA1, _, _⟩ := AX
    have PX := P2
    obtain ⟨fP0, fP1, _, _⟩ := PX
    have QX := Q2
    obtain ⟨fQ0, fQ1, _, _⟩ := QX
    go_wp2_with fail
    clear fA0 fA1 fP0 fP1 fQ0 fQ1
    refine (live_any _ T2).mono ?_
    rintro e w3 ⟨rfl, q3⟩
    have A3 := (A2.keep q3)
    have zA3 := (A2.keep q3).lt
    have P3 := (P2.keep q3)
    have zP3 := (P2.keep q3).lt
    have Q3 := (Q2.keep q3)
    have zQ3 := (Q2.keep q3).lt
    have Z3 := btr Z2 q3
    clear A2 P2 Q2 Z2 q3 zA2 zP2
    go_wp2_with fail
    go_ret
    exact ⟨rfl, Z3⟩

set_option maxRecDepth 100000 in
set_option maxHeartbeats 8000000 in
theorem multiplies_any (a l m n : Int) (h1 : I64 a) (h2 : U64 l) (h4 : I64 m) (h5 : I64 n) (w : World) (ht : Tb w) :
    Calls Tryd.prog 4 #[.agg #[.int .i64 a, .int .u64 l], .int .i64 m, .int .i64 n] w fun e w' => e = .returned (.bool true) ∧ Below w.heap.size w w' := by
  have C1 := fun W => scale_any a l n h1 h2 h5 W
  have C2 := fun W => rscale_any a l n h1 h2 h5 W
  have C3 := fun W => int_any a l h1 h2 W
  have C4 := fun W => rint_any a l h1 h2 W
  have C5 := fun W => mul_any m n h4 h5 W
  have C6 := fun W => rmul_any m n h4 h5 W
  have C7 := fun W => of_any n h5 W
  have C8 := fun W => rof_any n h5 W
  obtain ⟨sh, e1⟩ : ∃ x, wH (val a l * n) = x := ⟨_, rfl⟩
  obtain ⟨sl, e2⟩ : ∃ x, wL (val a l * n) = x := ⟨_, rfl⟩
  obtain ⟨se, e3⟩ : ∃ x, wE (val a l * n) = x := ⟨_, rfl⟩
  obtain ⟨k, e4⟩ : ∃ x, toInt (val a l) = x := ⟨_, rfl⟩
  obtain ⟨is, e5⟩ : ∃ x, isInt (val a l) = x := ⟨_, rfl⟩
  obtain ⟨mh, e6⟩ : ∃ x, wH (m * n) = x := ⟨_, rfl⟩
  obtain ⟨ml, e7⟩ : ∃ x, wL (m * n) = x := ⟨_, rfl⟩
  obtain ⟨oh, e8⟩ : ∃ x, wH n = x := ⟨_, rfl⟩
  obtain ⟨ol, e9⟩ : ∃ x, wL n = x := ⟨_, rfl⟩
  simp only [e1, e2, e3] at C1 C2
  simp only [e4, e5] at C3 C4
  simp only [e6, e7] at C5 C6
  simp only [e8, e9] at C7 C8
  have C1 := Lib.hid C1; have C2 := Lib.hid C2; have C3 := Lib.hid C3; have C4 := Lib.hid C4; have C5 := Lib.hid C5; have C6 := Lib.hid C6; have C7 := Lib.hid C7; have C8 := Lib.hid C8
  clear e1 e2 e3 e4 e5 e6 e7 e8 e9
  go_enter Tryd.func4, Tryd.ntmps4
  have A0 := Own.new w (.int .i64 a) (.int .u64 l) 24
  go_wp2_with fail
  refine (C1.out _).mono ?_
  rintro e w1 ⟨rfl, q1⟩
  have A1 := (A0.keep q1).al (.cells #[.int .i64 sh, .int .u64 sl] 24)
  have zA1 := (A0.keep q1).lt
  have P1 := Own.new w1 (.int .i64 sh) (.int .u64 sl) 24
  have Z1 := bal (btr (bal (bref w) _) q1) (.cells #[.int .i64 sh, .int .u64 sl] 24)
  clear A0 q1
  have AX := A1
  obtain ⟨fA0, fA1, _, _⟩ := AX
  go_wp2_with fail
  clear fA0 fA1
  refine (C2.out _).mono ?_
  rintro e w2 ⟨rfl, q2⟩
  have A2 := (A1.keep q2).al (.cells #[.int .i64 sh, .int .u64 sl] 24)
  have zA2 := (A1.keep q2).lt
  have P2 := (P1.keep q2).al (.cells #[.int .i64 sh, .int .u64 sl] 24)
  have zP2 := (P1.keep q2).lt
  have Q2 := Own.new w2 (.int .i64 sh) (.int .u64 sl) 24
  have Z2 := bal (btr Z1 q2) (.cells #[.int .i64 sh, .int .u64 sl] 24)
  clear A1 P1 Z1 q2 zA1
  have AX := A2
  obtain ⟨fA0, fA1, _, _⟩ := AX
  go_wp2_with fail
  clear fA0 fA1
  refine (C3.out _).mono ?_
  rintro e w3 ⟨rfl, q3⟩
  have A3 := (A2.keep q3)
  have zA3 := (A2.keep q3).lt
  have P3 := (P2.keep q3)
  have zP3 := (P2.keep q3).lt
  have Q3 := (Q2.keep q3)
  have zQ3 := (Q2.keep q3).lt
  have Z3 := btr Z2 q3
  clear A2 P2 Q2 Z2 q3 zA2 zP2
  have AX := A3
  obtain ⟨fA0, fA1, _, _⟩ := AX
  go_wp2_with fail
  clear fA0 fA1
  refine (C4.out _).mono ?_
  rintro e w4 ⟨rfl, q4⟩
  have A4 := (A3.keep q4)
  have zA4 := (A3.keep q4).lt
  have P4 := (P3.keep q4)
  have zP4 := (P3.keep q4).lt
  have Q4 := (Q3.keep q4)
  have zQ4 := (Q3.keep q4).lt
  have Z4 := btr Z3 q4
  clear A3 P3 Q3 Z3 q4 zA3 zP3 zQ3
  have PX := P4
  obtain ⟨fP0, fP1, _, _⟩ := PX
  have QX := Q4
  obtain ⟨fQ0, fQ1, _, _⟩ := QX
  go_wp2_with fail
  clear fP0 fP1 fQ0 fQ1
  refine (C5.out _).mono ?_
  rintro e w5 ⟨rfl, q5⟩
  have A5 := (A4.keep q5)
  have zA5 := (A4.keep q5).lt
  have P5 := (P4.keep q5)
  have zP5 := (P4.keep q5).lt
  have Q5 := (Q4.keep q5)
  have zQ5 := (Q4.keep q5).lt
  have Z5 := btr Z4 q5
  clear A4 P4 Q4 Z4 q5 zA4 zP4 zQ4
  go_wp2_with fail
  refine (C6.out _).mono ?_
  rintro e w6 ⟨rfl, q6⟩
  have A6 := (A5.keep q6)
  have zA6 := (A5.keep q6).lt
  have P6 := (P5.keep q6)
  have zP6 := (P5.keep q6).lt
  have Q6 := (Q5.keep q6)
  have zQ6 := (Q5.keep q6).lt
  have Z6 := btr Z5 q6
  clear A5 P5 Q5 Z5 q6 zA5 zP5 zQ5
  go_wp2_with fail
  refine (C7.out _).mono ?_
  rintro e w7 ⟨rfl, q7⟩
  have A7 := (A6.keep q7)
  have zA7 := (A6.keep q7).lt
  have P7 := (P6.keep q7)
  have zP7 := (P6.keep q7).lt
  have Q7 := (Q6.keep q7)
  have zQ7 := (Q6.keep q7).lt
  have Z7 := btr Z6 q7
  clear A6 P6 Q6 Z6 q7 zA6 zP6 zQ6
  go_wp2_with fail
  refine (C8.out _).mono ?_
  rintro e w8 ⟨rfl, q8⟩
  have A8 := (A7.keep q8)
  have zA8 := (A7.keep q8).lt
  have P8 := (P7.keep q8)
  have zP8 := (P7.keep q8).lt
  have Q8 := (Q7.keep q8)
  have zQ8 := (Q7.keep q8).lt
  have Z8 := btr Z7 q8
  clear A7 P7 Q7 Z7 q8 zA7 zP7 zQ7
  have T8 := ht.keep Z8
  go_wp2_with fail
  refine (live_any _ T8).mono ?_
  rintro e w9 ⟨rfl, q9⟩
  have A9 := (A8.keep q9)
  have zA9 := (A8.keep q9).lt
  have P9 := (P8.keep q9)
  have zP9 := (P8.keep q9).lt
  have Q9 := (Q8.keep q9)
  have zQ9 := (Q8.keep q9).lt
  have Z9 := btr Z8 q9
  clear A8 P8 Q8 Z8 q9 zA8 zP8 zQ8
  go_wp2_with fail
  go_ret
  exact ⟨rfl, Z9⟩
end Go.Proofs.YtfapcllhcbedlaaDoor
