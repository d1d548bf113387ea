/-
  The walks of the laws MoneyAdds, MoneyCodes and MoneyFormats.
-/
import Derived.Test.YtkijbckpfcfcpabDoorMLives
namespace Go.Proofs.YtkijbckpfcfcpabDoor
open Go Go.RowKit Go.Lib WM

theorem sum_swap (a b : Int) : sumV [b, a] = sumV [a, b] ∧ sumE [b, a] = sumE [a, b] := by
  have e : sumI [b, a] = sumI [a, b] := by simp [sumI, Int.add_comm]
  unfold sumV sumE
  rw [e]
  simp [Bool.and_comm]

set_option maxRecDepth 100000 in
set_option maxHeartbeats 4000000 in
theorem adds_any (a b : Int) (_ : I64 a) (_ : I64 b) (w : World) (ht : Tb w) :
    Calls Tryd.prog 3 #[.int .i64 a, .int .i64 b] w fun e w' => e = .returned (.bool true) ∧ Below w.heap.size w w' := by
  have C1 := fun W => madd a b W
  have C2 := fun W => radd a b W
  have C3 := fun W => madd b a W
  have V1 := fun W => mvalid a W
  have V2 := fun W => rvalid a W
  obtain ⟨e1, e2⟩ := sum_swap a b
  simp only [e1, e2] at C3
  obtain ⟨Q, h1⟩ : ∃ x, sumV [a, b] = x := ⟨_, rfl⟩
  obtain ⟨E, h2⟩ : ∃ x, sumE [a, b] = x := ⟨_, rfl⟩
  obtain ⟨B, h3⟩ : ∃ x, amtB a = x := ⟨_, rfl⟩
  simp only [h1, h2] at C1 C2 C3
  simp only [h3] at V1 V2
  have C1 := Lib.hid C1; have C2 := Lib.hid C2; have C3 := Lib.hid C3; have V1 := Lib.hid V1; have V2 := Lib.hid V2
  clear e1 e2 h1 h2 h3
  go_enter Tryd.func3, Tryd.ntmps3
  go_wp2_with fail
  refine (C1.out _).mono ?_
  rintro e w1 ⟨rfl, q1⟩
  go_wp2_with fail
  refine (C2.out _).mono ?_
  rintro e w2 ⟨rfl, rfl⟩
  go_wp2_with fail
  refine (C3.out _).mono ?_
  rintro e w3 ⟨rfl, q3⟩
  have Z3 := btr q1 q3
  go_wp2_with fail
  refine (V1.out _).mono ?_
  rintro e w4 ⟨rfl, rfl⟩
  go_wp2_with fail
  refine (V2.out _).mono ?_
  rintro e w4 ⟨rfl, rfl⟩
  go_wp2_with fail
  refine (lives_any _ (ht.keep Z3)).mono ?_
  rintro e w5 ⟨rfl, q5⟩
  have Z5 := btr Z3 q5
  go_wp2_with fail
  go_ret
  exact ⟨rfl, Z5⟩

set_option maxRecDepth 100000 in
set_option maxHeartbeats 4000000 in
theorem codes_any (s : ByteArray) (_ : s.size ≤ maxLen) (w : World) (ht : Tb w) :
    Calls Tryd.prog 5 #[.string s] w fun e w' => e = .returned (.bool true) ∧ Below w.heap.size w w' := by
  by_cases hbig : 100 < s.size
  · have hz : (100 : Int) < (s.size : Int) := by omega
    clear hbig
    go_enter Tryd.func5, Tryd.ntmps5
    go_wp2_with fail
    refine (lives_any _ ht).mono ?_
    rintro e w1 ⟨rfl, q1⟩
    go_wp2_with fail
    go_ret
    exact ⟨rfl, q1⟩
  · have hz : ¬ (100 : Int) < (s.size : Int) := by omega
    have hz2 : (s.size : Int) ≤ 100 := by omega
    have C1 := fun W => mcode s W
    have C2 := fun W => rcode s W
    obtain ⟨B, h3⟩ : ∃ x, codeB s.data.toList = x := ⟨_, rfl⟩
    simp only [h3] at C1 C2
    have C1 := Lib.hid C1; have C2 := Lib.hid C2
    clear hbig h3
    go_enter Tryd.func5, Tryd.ntmps5
    go_wp2_with fail
    refine (C1.out _).mono ?_
    rintro e w1 ⟨rfl, q1⟩
    go_wp2_with fail
    refine (C2.out _).mono ?_
    rintro e w2 ⟨rfl, rfl⟩
    go_wp2_with fail
    refine (lives_any _ (ht.keep q1)).mono ?_
    rintro e w3 ⟨rfl, q3⟩
    have Z3 := btr q1 q3
    go_wp2_with fail
    go_ret
    exact ⟨rfl, Z3⟩

set_option maxRecDepth 100000 in
set_option maxHeartbeats 4000000 in
theorem formats_any (a d : Int) (_ : I64 a) (_ : I64 d) (w : World) (ht : Tb w) :
    Calls Tryd.prog 7 #[.int .i64 a, .int .i64 d] w fun e w' => e = .returned (.bool true) ∧ Below w.heap.size w w' := by
  have C1 := fun W hT => mformat a d W hT
  have C2 := fun W => rformat a d W
  obtain ⟨Q, h1⟩ : ∃ x, str (fmtL a d) = x := ⟨_, rfl⟩
  obtain ⟨E, h2⟩ : ∃ x, fmtE a d = x := ⟨_, rfl⟩
  simp only [h1, h2] at C1 C2
  have C1 := Lib.hid C1; have C2 := Lib.hid C2
  clear h1 h2
  go_enter Tryd.func7, Tryd.ntmps7
  go_wp2_with fail
  refine (C1.out _ ht).mono ?_
  rintro e w1 ⟨rfl, q1⟩
  go_wp2_with fail
  refine (C2.out _).mono ?_
  rintro e w2 ⟨rfl, q2⟩
  have Z2 := btr q1 q2
  go_wp2_with fail
  refine (lives_any _ (ht.keep Z2)).mono ?_
  rintro e w3 ⟨rfl, q3⟩
  have Z3 := btr Z2 q3
  go_wp2_with fail
  go_ret
  exact ⟨rfl, Z3⟩
end Go.Proofs.YtkijbckpfcfcpabDoor
