/-
  The walk of the law MoneyRoundTrips.
-/
import Derived.Test.YtkijbckpfcfcpabDoorMLives
namespace Go.Proofs.YtkijbckpfcfcpabDoor
open Go Go.RowKit Go.Lib WM

theorem pr_zero_val (l : List UInt8) (d : Int) (h : ¬ prE l d = 0) : prV l d = 0 := by unfold prV; rw [if_neg h]
theorem fmt_len (a d : Int) : (fmtL a d).length ≤ 60 := by
  unfold fmtL
  split
  · rename_i hg
    rw [Bool.and_eq_true] at hg
    obtain ⟨ha, hd⟩ := hg
    simp only [amtB, decide_eq_true_eq] at ha
    simp only [plB, decide_eq_true_eq] at hd
    have key : (pointed a.natAbs d.toNat).length ≤ 30 := by
      have e10 : (10 : Nat) ^ (12 + 1) = 10000000000000 := by decide
      have h1 : nDigits a.natAbs ≤ 13 := nDigits_le 12 _ (by omega)
      have h2 : nDigits (a.natAbs / 10 ^ d.toNat) ≤ 13 := nDigits_le 12 _ (by
        have := Nat.div_le_self a.natAbs (10 ^ d.toNat)
        omega)
      unfold pointed
      split
      · rw [decDigits_length]; omega
      · rw [List.length_append, List.length_cons, pad_length, decDigits_length]; omega
    split
    · rw [List.length_cons]; omega
    · omega
  · simp

set_option maxRecDepth 100000 in
set_option maxHeartbeats 8000000 in
theorem rounds_any (a d : Int) (s : ByteArray) (_ : I64 a) (_ : I64 d) (hs : s.size ≤ maxLen) (w : World) (ht : Tb w) :
    Calls Tryd.prog 9 #[.int .i64 a, .int .i64 d, .string s] w fun e w' => e = .returned (.bool true) ∧ Below w.heap.size w w' := by
  have hs' : s.size ≤ 9223372036854775807 := by unfold maxLen at hs; omega
  have F1 := fun W hT => mformat a d W hT
  have P1 := fun W => mparse (str (fmtL a d)) d (by rw [str_size]; have := fmt_len a d; omega) W
  rw [str_list] at P1
  have P2 := fun W => mparse s d hs' W
  have RF := read_fmt a d
  have FR := fmt_read s.data.toList d
  have RZ := pr_zero_val s.data.toList d
  have F2 := fun n W hT => mformat n d W hT
  have V2 := fun n W => mvalid n W
  obtain ⟨T, hT⟩ : ∃ x, str (fmtL a d) = x := ⟨_, rfl⟩
  obtain ⟨E1, hE1⟩ : ∃ x, fmtE a d = x := ⟨_, rfl⟩
  obtain ⟨E2, hE2⟩ : ∃ x, prE s.data.toList d = x := ⟨_, rfl⟩
  obtain ⟨N, hN⟩ : ∃ x, prV s.data.toList d = x := ⟨_, rfl⟩
  simp only [hT, hE1] at F1 P1 RF
  simp only [hE2, hN] at P2 FR RZ
  have F1 := Lib.hid F1; have P2 := Lib.hid P2
  have HE1 := Lib.hid hE1
  clear hT hE1 hE2 hN hs hs'

  by_cases e1 : E1 = 0
  · obtain ⟨r1, r2⟩ := RF e1
    simp only [r1, r2] at P1
    have P1 := Lib.hid P1
    subst e1
    clear RF r1 r2
    by_cases hbig : 100 < s.size
    · have hz : (100 : Int) < (s.size : Int) := by omega
      clear hbig FR RZ F2 V2
      go_enter Tryd.func9, Tryd.ntmps9
      go_wp2_with fail
      refine (F1.out _ ht).mono ?_
      rintro e w1 ⟨rfl, q1⟩
      go_wp2_with fail
      refine (P1.out _).mono ?_
      rintro e w2 ⟨rfl, q2⟩
      have B := btr q1 q2
      go_wp2_with fail
      refine (lives_any _ (ht.keep B)).mono ?_
      rintro e w5 ⟨rfl, q5⟩
      have B5 := btr B q5
      go_wp2_with fail
      go_ret
      exact ⟨rfl, B5⟩
    · have hz : ¬ (100 : Int) < (s.size : Int) := by omega
      clear hbig
      by_cases e2 : E2 = 0
      · obtain ⟨f1, f2, f3⟩ := FR e2
        have F3 := fun W hT => F2 N W hT
        have V3 := fun W => V2 N W
        simp only [f1] at V3
        simp only [f2, f3, list_str] at F3
        have F3 := Lib.hid F3; have V3 := Lib.hid V3
        subst e2
        clear FR RZ F2 V2 f1 f2 f3
        go_enter Tryd.func9, Tryd.ntmps9
        go_wp2_with fail
        refine (F1.out _ ht).mono ?_
        rintro e w1 ⟨rfl, q1⟩
        go_wp2_with fail
        refine (P1.out _).mono ?_
        rintro e w2 ⟨rfl, q2⟩
        have B := btr q1 q2
        go_wp2_with fail
        refine (P2.out _).mono ?_
        rintro e w5 ⟨rfl, q5⟩
        have B5 := btr B q5
        go_wp2_with fail
        refine (F3.out _ (ht.keep B5)).mono ?_
        rintro e w6 ⟨rfl, q6⟩
        have B6 := btr B5 q6
        go_wp2_with fail
        refine (V3.out _).mono ?_
        rintro e w7 ⟨rfl, rfl⟩
        go_wp2_with fail
        refine (lives_any _ (ht.keep B6)).mono ?_
        rintro e w8 ⟨rfl, q8⟩
        have B8 := btr B6 q8
        go_wp2_with fail
        go_ret
        exact ⟨rfl, B8⟩
      · obtain rfl := RZ e2
        have hne : (E2 == 0) = false := by rw [beq_eq_false_iff_ne]; exact e2
        have hnb : (E2 != 0) = true := by rw [bne_iff_ne]; exact e2
        clear FR RZ F2 V2
        go_enter Tryd.func9, Tryd.ntmps9
        go_wp2_with fail
        refine (F1.out _ ht).mono ?_
        rintro e w1 ⟨rfl, q1⟩
        go_wp2_with fail
        refine (P1.out _).mono ?_
        rintro e w2 ⟨rfl, q2⟩
        have B := btr q1 q2
        go_wp2_with fail
        refine (P2.out _).mono ?_
        rintro e w5 ⟨rfl, q5⟩
        have B5 := btr B q5
        go_wp2_with fail
        refine (lives_any _ (ht.keep B5)).mono ?_
        rintro e w8 ⟨rfl, q8⟩
        have B8 := btr B5 q8
        go_wp2_with fail
        go_ret
        exact ⟨rfl, B8⟩
  · have he : (E1 == 0) = false := by rw [beq_eq_false_iff_ne]; exact e1
    clear RF P1
    by_cases hbig : 100 < s.size
    · have hz : (100 : Int) < (s.size : Int) := by omega
      clear hbig FR RZ F2 V2
      go_enter Tryd.func9, Tryd.ntmps9
      go_wp2_with fail
      refine (F1.out _ ht).mono ?_
      rintro e w1 ⟨rfl, B⟩
      go_wp2_with fail
      refine (lives_any _ (ht.keep B)).mono ?_
      rintro e w5 ⟨rfl, q5⟩
      have B5 := btr B q5
      go_wp2_with fail
      go_ret
      exact ⟨rfl, B5⟩
    · have hz : ¬ (100 : Int) < (s.size : Int) := by omega
      clear hbig
      by_cases e2 : E2 = 0
      · obtain ⟨f1, f2, f3⟩ := FR e2
        have F3 := fun W hT => F2 N W hT
        have V3 := fun W => V2 N W
        simp only [f1] at V3
        simp only [f2, f3, list_str] at F3
        have F3 := Lib.hid F3; have V3 := Lib.hid V3
        subst e2
        clear FR RZ F2 V2 f1 f2 f3
        go_enter Tryd.func9, Tryd.ntmps9
        go_wp2_with fail
        refine (F1.out _ ht).mono ?_
        rintro e w1 ⟨rfl, B⟩
        go_wp2_with fail
        refine (P2.out _).mono ?_
        rintro e w5 ⟨rfl, q5⟩
        have B5 := btr B q5
        go_wp2_with fail
        refine (F3.out _ (ht.keep B5)).mono ?_
        rintro e w6 ⟨rfl, q6⟩
        have B6 := btr B5 q6
        go_wp2_with fail
        refine (V3.out _).mono ?_
        rintro e w7 ⟨rfl, rfl⟩
        go_wp2_with fail
        refine (lives_any _ (ht.keep B6)).mono ?_
        rintro e w8 ⟨rfl, q8⟩
        have B8 := btr B6 q8
        go_wp2_with fail
        go_ret
        exact ⟨rfl, B8⟩
      · obtain rfl := RZ e2
        have hne : (E2 == 0) = false := by rw [beq_eq_false_iff_ne]; exact e2
        have hnb : (E2 != 0) = true := by rw [bne_iff_ne]; exact e2
        clear FR RZ F2 V2
        go_enter Tryd.func9, Tryd.ntmps9
        go_wp2_with fail
        refine (F1.out _ ht).mono ?_
        rintro e w1 ⟨rfl, B⟩
        go_wp2_with fail
        refine (P2.out _).mono ?_
        rintro e w5 ⟨rfl, q5⟩
        have B5 := btr B q5
        go_wp2_with fail
        refine (lives_any _ (ht.keep B5)).mono ?_
        rintro e w8 ⟨rfl, q8⟩
        have B8 := btr B5 q8
        go_wp2_with fail
        go_ret
        exact ⟨rfl, B8⟩
end Go.Proofs.YtkijbckpfcfcpabDoor
