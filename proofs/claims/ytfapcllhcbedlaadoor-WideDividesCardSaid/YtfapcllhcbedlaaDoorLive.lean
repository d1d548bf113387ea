/-
  The examples that every statement asks first: they hold.
-/
import Derived.Test.YtfapcllhcbedlaaDoorParse
import Derived.Test.YtfapcllhcbedlaaDoorWalkE
import Derived.Deep.RegionHeld3
import Derived.Deep.RegionWith
import Derived.StillTactics
import Derived.OwnWalk
namespace Go.Proofs.YtfapcllhcbedlaaDoor
open Go Go.RowKit Go.Lib WM

/-- "-170141183460469231731687303715884105728", "007", "85070591730234615865843651857942052864". -/
def leastS : ByteArray := ⟨#[45, 49, 55, 48, 49, 52, 49, 49, 56, 51, 52, 54, 48, 52, 54, 57, 50, 51, 49, 55, 51, 49, 54, 56, 55, 51, 48, 51, 55, 49, 53, 56, 56, 52, 49, 48, 53, 55, 50, 56]⟩
def bondS : ByteArray := ⟨#[48, 48, 55]⟩
def squareS : ByteArray := ⟨#[56, 53, 48, 55, 48, 53, 57, 49, 55, 51, 48, 50, 51, 52, 54, 49, 53, 56, 54, 53, 56, 52, 51, 54, 53, 49, 56, 53, 55, 57, 52, 50, 48, 53, 50, 56, 54, 52]⟩

theorem l_of7 (w : World) : Calls Tryd.prog 31 #[.int .i64 (-7)] w fun e w' => e = .returned (.agg #[.int .i64 (-1), .int .u64 18446744073709551609]) ∧ Below w.heap.size w w' :=
  (of_any (-7) (by unfold I64; omega) w).mono fun e w' ⟨he, hb⟩ => ⟨by
    have h1 : wH (-7) = -1 := by decide +kernel
    have h2 : wL (-7) = 18446744073709551609 := by decide +kernel
    rw [h1, h2] at he; exact he, hb⟩
theorem l_of1 (w : World) : Calls Tryd.prog 31 #[.int .i64 1] w fun e w' => e = .returned (.agg #[.int .i64 0, .int .u64 1]) ∧ Below w.heap.size w w' :=
  (of_any 1 (by unfold I64; omega) w).mono fun e w' ⟨he, hb⟩ => ⟨by
    have h1 : wH 1 = 0 := by decide +kernel
    have h2 : wL 1 = 1 := by decide +kernel
    rw [h1, h2] at he; exact he, hb⟩
theorem l_of5 (w : World) : Calls Tryd.prog 31 #[.int .i64 (-5)] w fun e w' => e = .returned (.agg #[.int .i64 (-1), .int .u64 18446744073709551611]) ∧ Below w.heap.size w w' :=
  (of_any (-5) (by unfold I64; omega) w).mono fun e w' ⟨he, hb⟩ => ⟨by
    have h1 : wH (-5) = -1 := by decide +kernel
    have h2 : wL (-5) = 18446744073709551611 := by decide +kernel
    rw [h1, h2] at he; exact he, hb⟩
theorem l_ofm1 (w : World) : Calls Tryd.prog 31 #[.int .i64 (-1)] w fun e w' => e = .returned (.agg #[.int .i64 (-1), .int .u64 18446744073709551615]) ∧ Below w.heap.size w w' :=
  (of_any (-1) (by unfold I64; omega) w).mono fun e w' ⟨he, hb⟩ => ⟨by
    have h1 : wH (-1) = -1 := by decide +kernel
    have h2 : wL (-1) = 18446744073709551615 := by decide +kernel
    rw [h1, h2] at he; exact he, hb⟩
theorem l_ofm4 (w : World) : Calls Tryd.prog 31 #[.int .i64 (-4)] w fun e w' => e = .returned (.agg #[.int .i64 (-1), .int .u64 18446744073709551612]) ∧ Below w.heap.size w w' :=
  (of_any (-4) (by unfold I64; omega) w).mono fun e w' ⟨he, hb⟩ => ⟨by
    have h1 : wH (-4) = -1 := by decide +kernel
    have h2 : wL (-4) = 18446744073709551612 := by decide +kernel
    rw [h1, h2] at he; exact he, hb⟩
theorem l_div (w : World) : Calls Tryd.prog 33 #[.agg #[.int .i64 (-1), .int .u64 18446744073709551609], .int .i64 2] w fun e w' =>
    e = .returned (.tuple #[.agg #[.int .i64 (-1), .int .u64 18446744073709551612], .int .i64 1, .int .i64 0]) ∧ Below w.heap.size w w' :=
  (div_any (-1) 18446744073709551609 2 (by unfold I64; omega) (by unfold U64; omega) (by unfold I64; omega) (by omega) w).mono fun e w' ⟨he, hb⟩ => ⟨by
    have h1 : wH (val (-1) 18446744073709551609 / 2) = -1 := by decide +kernel
    have h2 : wL (val (-1) 18446744073709551609 / 2) = 18446744073709551612 := by decide +kernel
    have h3 : val (-1) 18446744073709551609 % 2 = 1 := by decide +kernel
    rw [h1, h2, h3] at he; exact he, hb⟩
theorem l_add (w : World) : Calls Tryd.prog 18 #[.agg #[.int .i64 9223372036854775807, .int .u64 18446744073709551615], .agg #[.int .i64 0, .int .u64 1]] w fun e w' =>
    e = .returned (.tuple #[.agg #[.int .i64 0, .int .u64 0], .int .i64 6]) ∧ Below w.heap.size w w' :=
  (add_any 9223372036854775807 18446744073709551615 0 1 (by unfold I64; omega) (by unfold U64; omega) (by unfold I64; omega) (by unfold U64; omega) w).mono fun e w' ⟨he, hb⟩ => ⟨by
    have h1 : wH (val 9223372036854775807 18446744073709551615 + val 0 1) = 0 := by decide +kernel
    have h2 : wL (val 9223372036854775807 18446744073709551615 + val 0 1) = 0 := by decide +kernel
    have h3 : wE (val 9223372036854775807 18446744073709551615 + val 0 1) = 6 := by decide +kernel
    rw [h1, h2, h3] at he; exact he, hb⟩
theorem l_mul (w : World) : Calls Tryd.prog 29 #[.int .i64 (-9223372036854775808), .int .i64 (-9223372036854775808)] w fun e w' =>
    e = .returned (.agg #[.int .i64 4611686018427387904, .int .u64 0]) ∧ Below w.heap.size w w' :=
  (mul_any (-9223372036854775808) (-9223372036854775808) (by unfold I64; omega) (by unfold I64; omega) w).mono fun e w' ⟨he, hb⟩ => ⟨by
    have h1 : wH (-9223372036854775808 * -9223372036854775808) = 4611686018427387904 := by decide +kernel
    have h2 : wL (-9223372036854775808 * -9223372036854775808) = 0 := by decide +kernel
    rw [h1, h2] at he; exact he, hb⟩
theorem l_least (w : World) : Calls Tryd.prog 35 #[.string leastS] w fun e w' =>
    e = .returned (.tuple #[.agg #[.int .i64 (-9223372036854775808), .int .u64 0], .int .i64 0]) ∧ Below w.heap.size w w' :=
  (parse_any leastS (by decide) w).mono fun e w' ⟨he, hb⟩ => ⟨by
    have h1 : wH (pV leastS.data.toList) = -9223372036854775808 := by decide +kernel
    have h2 : wL (pV leastS.data.toList) = 0 := by decide +kernel
    have h3 : pE leastS.data.toList = 0 := by decide +kernel
    rw [h1, h2, h3] at he; exact he, hb⟩
theorem l_bond (w : World) : Calls Tryd.prog 35 #[.string bondS] w fun e w' =>
    e = .returned (.tuple #[.agg #[.int .i64 0, .int .u64 0], .int .i64 2]) ∧ Below w.heap.size w w' :=
  (parse_any bondS (by decide) w).mono fun e w' ⟨he, hb⟩ => ⟨by
    have h1 : wH (pV bondS.data.toList) = 0 := by decide +kernel
    have h2 : wL (pV bondS.data.toList) = 0 := by decide +kernel
    have h3 : pE bondS.data.toList = 2 := by decide +kernel
    rw [h1, h2, h3] at he; exact he, hb⟩
theorem l_int (w : World) : Calls Tryd.prog 27 #[.agg #[.int .i64 (-1), .int .u64 18446744073709551611]] w fun e w' =>
    e = .returned (.tuple #[.int .i64 (-5), .bool true]) ∧ Below w.heap.size w w' :=
  (int_any (-1) 18446744073709551611 (by unfold I64; omega) (by unfold U64; omega) w).mono fun e w' ⟨he, hb⟩ => ⟨by
    have h1 : toInt (val (-1) 18446744073709551611) = -5 := by decide +kernel
    have h2 : isInt (val (-1) 18446744073709551611) = true := by decide +kernel
    rw [h1, h2] at he; exact he, hb⟩
theorem dec_pad (k v : Nat) (h1 : 10 ^ k ≤ v) (h2 : v < 10 ^ (k + 1)) : decDigits v = pad (k + 1) v := by
  rw [pad_digits k v h2, nDigits_unique k v h1 h2, Nat.sub_self]; rfl
theorem itoa_square : str (itoa (val 4611686018427387904 0)) = squareS := by
  have h1 : val 4611686018427387904 0 = 85070591730234615865843651857942052864 := by decide +kernel
  have h2 : (85070591730234615865843651857942052864 : Int).toNat = 85070591730234615865843651857942052864 := by decide +kernel
  have h3 : ¬ (85070591730234615865843651857942052864 : Int) < 0 := by decide +kernel
  have h4 : pad (37 + 1) 85070591730234615865843651857942052864 = squareS.data.toList := by decide +kernel
  unfold itoa
  rw [h1, if_neg h3, h2, dec_pad 37 _ (by decide +kernel) (by decide +kernel), h4]
  rfl
theorem l_text (w : World) (ht : Tb w) : Calls Tryd.prog 37 #[.agg #[.int .i64 4611686018427387904, .int .u64 0]] w fun e w' => e = .returned (.string ⟨#[56, 53, 48, 55, 48, 53, 57, 49, 55, 51, 48, 50, 51, 52, 54, 49, 53, 56, 54, 53, 56, 52, 51, 54, 53, 49, 56, 53, 55, 57, 52, 50, 48, 53, 50, 56, 54, 52]⟩) ∧ Below w.heap.size w w' :=
  (text_any 4611686018427387904 0 (by unfold I64; omega) (by unfold U64; omega) w ht).mono fun e w' ⟨he, hb⟩ => ⟨by rw [itoa_square] at he; exact he, hb⟩
theorem l_cmp (w : World) : Calls Tryd.prog 22 #[.agg #[.int .i64 (-1), .int .u64 18446744073709551612], .agg #[.int .i64 4611686018427387904, .int .u64 0]] w fun e w' => e = .returned (.int .i64 (-1)) ∧ Below w.heap.size w w' :=
  (cmp_any (-1) 18446744073709551612 4611686018427387904 0 (by unfold U64; omega) (by unfold U64; omega) w).mono fun e w' ⟨he, hb⟩ => ⟨by
    have h1 : cmpW (val (-1) 18446744073709551612) (val 4611686018427387904 0) = -1 := by decide +kernel
    rw [h1] at he; exact he, hb⟩

theorem keep_all {w W W1 : World} {n2 n5 n6 : Nat} {a b c d e f : Value}
    (h : W.cell? ⟨n2, 0, none⟩ = some a ∧ W.cell? ⟨n2, 1, none⟩ = some b ∧ W.cell? ⟨n5, 0, none⟩ = some c ∧ W.cell? ⟨n5, 1, none⟩ = some d ∧ W.cell? ⟨n6, 0, none⟩ = some e ∧ W.cell? ⟨n6, 1, none⟩ = some f ∧ Tb W ∧ Below w.heap.size w W) (hk : Below W.heap.size W W1) :
    W1.cell? ⟨n2, 0, none⟩ = some a ∧ W1.cell? ⟨n2, 1, none⟩ = some b ∧ W1.cell? ⟨n5, 0, none⟩ = some c ∧ W1.cell? ⟨n5, 1, none⟩ = some d ∧ W1.cell? ⟨n6, 0, none⟩ = some e ∧ W1.cell? ⟨n6, 1, none⟩ = some f ∧ Tb W1 ∧ Below w.heap.size w W1 :=
  ⟨keepc hk h.1, keepc hk h.2.1, keepc hk h.2.2.1, keepc hk h.2.2.2.1, keepc hk h.2.2.2.2.1, keepc hk h.2.2.2.2.2.1, h.2.2.2.2.2.2.1.keep hk, btr h.2.2.2.2.2.2.2 hk⟩

set_option maxRecDepth 100000 in
set_option maxHeartbeats 8000000 in
theorem live_any (w : World) (ht : Tb w) : Calls Tryd.prog 24 #[] w fun e w' => e = .returned (.bool true) ∧ Below w.heap.size w w' := by
  go_enter Tryd.func24, Tryd.ntmps24
  go_wp2_with fail
  refine (l_of7 _).mono ?_
  rintro e w1 ⟨rfl, b1⟩
  go_wp2_with fail
  refine (l_div _).mono ?_
  rintro e w2 ⟨rfl, b2⟩
  have B2 := btr b1 b2
  clear b1 b2
  have Q2 := Own.new w2 (.int .i64 (-1)) (.int .u64 18446744073709551612) 24
  go_wp2_with fail
  refine (l_of1 _).mono ?_
  rintro e w3 ⟨rfl, b3⟩
  have Q3 := Q2.keep b3
  have B3 := btr (bal B2 _) b3
  have s3 := Q3.lt
  clear Q2 B2 b3
  go_wp2_with fail
  refine (l_add _).mono ?_
  rintro e w4 ⟨rfl, b4⟩
  have Q4 := Q3.keep b4
  have B4 := btr B3 b4
  have s4 := Q4.lt
  clear Q3 B3 b4
  have Q4' := Q4.al (.cells #[.int .i64 0, .int .u64 0] 24)
  go_wp2_with fail
  refine (l_mul _).mono ?_
  rintro e w5 ⟨rfl, b5⟩
  have Q5 := Q4'.keep b5
  have B5 := btr (bal B4 _) b5
  have s5 := Q5.lt
  clear Q4 Q4' B4 b5
  have M5 := Own.new w5 (.int .i64 4611686018427387904) (.int .u64 0) 24
  have Q5' := Q5.al (.cells #[.int .i64 4611686018427387904, .int .u64 0] 24)
  go_wp2_with fail
  refine (l_least _).mono ?_
  rintro e w6 ⟨rfl, b6⟩
  have Q6 := Q5'.keep b6
  have M6 := M5.keep b6
  have B6 := btr (bal B5 _) b6
  have s6 := M6.lt
  clear Q5 Q5' M5 B5 b6
  have Q6' := Q6.al (.cells #[.int .i64 (-9223372036854775808), .int .u64 0] 24)
  have M6' := M6.al (.cells #[.int .i64 (-9223372036854775808), .int .u64 0] 24)
  have L6 := Own.new w6 (.int .i64 (-9223372036854775808)) (.int .u64 0) 24
  go_wp2_with fail
  refine (l_bond _).mono ?_
  rintro e w7 ⟨rfl, b7⟩
  have Q7 := Q6'.keep b7
  have M7 := M6'.keep b7
  have L7 := L6.keep b7
  have B7 := btr (bal B6 _) b7
  have s7 := L7.lt
  clear Q6 Q6' M6 M6' L6 B6 b7
  have Q7' := Q7.al (.cells #[.int .i64 0, .int .u64 0] 24)
  have M7' := M7.al (.cells #[.int .i64 0, .int .u64 0] 24)
  have L7' := L7.al (.cells #[.int .i64 0, .int .u64 0] 24)
  go_wp2_with fail
  refine (l_of5 _).mono ?_
  rintro e w8 ⟨rfl, b8⟩
  have Q8 := Q7'.keep b8
  have M8 := M7'.keep b8
  have L8 := L7'.keep b8
  have B8 := btr (bal B7 _) b8
  clear Q7 Q7' M7 M7' L7 L7' B7 b8
  go_wp2_with fail
  refine (l_int _).mono ?_
  rintro e w9 ⟨rfl, b9⟩
  have Q9 := Q8.keep b9
  have M9 := M8.keep b9
  have L9 := L8.keep b9
  have B9 := btr B8 b9
  clear Q8 M8 L8 B8 b9 s3 s4 s5 s6 s7
  have T9 : Tb w9 := ht.keep B9
  obtain ⟨qa, qb, _, _⟩ := Q9
  obtain ⟨ma, mb, _, _⟩ := M9
  obtain ⟨la, lb, _, _⟩ := L9
  go_wp2_with fail
  generalize w2.heap.size = n2 at *
  generalize w5.heap.size = n5 at *
  generalize w6.heap.size = n6 at *
  have w1 : wH (-1) = -1 := by decide +kernel
  have w1' : wL (-1) = 18446744073709551615 := by decide +kernel
  have w4 : wH (-4) = -1 := by decide +kernel
  have w4' : wL (-4) = 18446744073709551612 := by decide +kernel
  have K9 := And.intro (show w9.drew.cell? ⟨n2, 0, none⟩ = _ from qa) (And.intro (show w9.drew.cell? ⟨n2, 1, none⟩ = _ from qb) (And.intro (show w9.drew.cell? ⟨n5, 0, none⟩ = _ from ma) (And.intro (show w9.drew.cell? ⟨n5, 1, none⟩ = _ from mb) (And.intro (show w9.drew.cell? ⟨n6, 0, none⟩ = _ from la) (And.intro (show w9.drew.cell? ⟨n6, 1, none⟩ = _ from lb) (And.intro (ht.keep (bdr B9)) (bdr B9)))))))
  go_region_held3 (fun W => W.cell? ⟨n2, 0, none⟩ = some (.int .i64 (-1)) ∧ W.cell? ⟨n2, 1, none⟩ = some (.int .u64 18446744073709551612) ∧ W.cell? ⟨n5, 0, none⟩ = some (.int .i64 4611686018427387904) ∧ W.cell? ⟨n5, 1, none⟩ = some (.int .u64 0) ∧ W.cell? ⟨n6, 0, none⟩ = some (.int .i64 (-9223372036854775808)) ∧ W.cell? ⟨n6, 1, none⟩ = some (.int .u64 0) ∧ Tb W ∧ Below w.heap.size w W)
    (first | exact K9 | exact keep_all (by assumption) hk | (go_split_ands; exact keep_all ⟨by assumption, by assumption, by assumption, by assumption, by assumption, by assumption, by assumption, by assumption⟩ hk))
    (first
      | (go_at_call 31; refine (of_any _ ?_ _).mono ?_; (unfold I64; omega); rintro e W1 ⟨rfl, hk⟩)
      | (go_at_call 37; (try go_split_ands); refine (l_text _ ?_).mono ?_; (first | assumption | (show Tb _; assumption)); rintro e W1 ⟨rfl, hk⟩)
      | (go_at_call 22; refine (l_cmp _).mono ?_; rintro e W1 ⟨rfl, hk⟩))
  go_wp2_with fail
  (try go_split_ands)
  go_ret
  exact ⟨rfl, by first | assumption | exact btr (by assumption) hk⟩
end Go.Proofs.YtfapcllhcbedlaaDoor
