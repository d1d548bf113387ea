/-
  The examples that every statement about rounding asks: they hold.
-/
import Derived.Test.YtjhfbnndapopgaaDoorRSplitW
import Derived.Test.YtjhfbnndapopgaaDoorRPercents
import Derived.Test.YtjhfbnndapopgaaDoorRS
import Derived.Test.YtjhfbnndapopgaaDoorRAP
import Derived.Deep.RegionHeld3
import Derived.StillTactics
namespace Go.Proofs.YtjhfbnndapopgaaDoor
open Go Go.RowKit Go.Sort WM

theorem ex1 : dQ (val (wH (-5)) (wL (-5))) 2 6 = -2 ∧ dE (val (wH (-5)) (wL (-5))) 2 6 = 0 := by decide +kernel
theorem ex2 : dQ (val (wH (-5)) (wL (-5))) 2 5 = -3 ∧ dE (val (wH (-5)) (wL (-5))) 2 5 = 0 := by decide +kernel
theorem ex3 : aQ (val 0 6588000000000) 6 = 4 ∧ aE (val 0 6588000000000) 6 = 0 ∧ wH (aR (val 0 6588000000000) 6) = 0 ∧ wL (aR (val 0 6588000000000) 6) = 175680000000 := by decide +kernel
theorem ex4 : pQ 1005 5000 2 = 6 ∧ pE' 1005 5000 2 = 0 := by decide +kernel
theorem ex5 : sQ 1250 100 5 = 1300 ∧ sE 1250 100 5 = 0 := by decide +kernel
theorem ex6 : wH 175680000000 = 0 ∧ wL 175680000000 = 175680000000 := by decide +kernel
theorem ex7 : psF 2 (remL 7 3 [1, 0, 2]) = [2, 0, 1] := by decide +kernel
theorem ex8 : finL (-7) (bumps (partL 7 3 [1, 0, 2]) (List.take 1 [2, 0, 1])) = [-2, 0, -5] := by decide +kernel
theorem ex9 : wH (-5) = -1 ∧ wL (-5) = 18446744073709551611 := by decide +kernel

theorem lsplit (b cap : Nat) (w : World) (hb : b < w.heap.size) (hc : ∀ i, i < 3 → w.cell? ⟨b, 0 + i, none⟩ = some (.int .i64 (([1, 0, 2] : List Int).getD i 0))) :
    Calls Tryd.prog 31 #[.int .i64 (-7), .slice (some ⟨b, 0, none⟩) 3 cap] w fun e w' =>
      ∃ g c, e = .returned (.tuple #[.slice (some ⟨g, 0, none⟩) 3 c, .int .i64 0]) ∧ w'.cell? ⟨g, 0, none⟩ = some (.int .i64 (-2)) ∧ w'.cell? ⟨g, 1, none⟩ = some (.int .i64 0) ∧ w'.cell? ⟨g, 2, none⟩ = some (.int .i64 (-5)) ∧ Below w.heap.size w w' := by
  have S := split_small (-7) 7 3 b 0 cap 2 1 [1, 0, 2] [2, 0, 1] w (by decide) (by decide) rfl (by decide) (by decide) (by decide) (by decide)
    (fun i hi => by
      have hi2 : i < 3 := hi
      match i, hi2 with
      | 0, _ => decide
      | 1, _ => decide
      | 2, _ => decide) ex7 (by decide +kernel) (by decide) rfl
    (fun j hj => by
      match j, hj with
      | 0, _ => exact ⟨2, by decide, rfl⟩
      | 1, _ => exact ⟨0, by decide, rfl⟩
      | 2, _ => exact ⟨1, by decide, rfl⟩) hb hc
  rw [ex8] at S
  refine S.mono ?_
  rintro e w1 ⟨g, c, rfl, hX, hB⟩
  exact ⟨g, c, rfl, (hX.2 0 (by decide)).1, (hX.2 1 (by decide)).1, (hX.2 2 (by decide)).1, hB⟩

theorem k_of (w : World) : Calls Tryd.prog 28 #[.int .i64 (-5)] w fun e w' => e = .returned (.agg #[.int .i64 (-1), .int .u64 18446744073709551611]) ∧ Below w.heap.size w w' :=
  (rof_any (-5) (by unfold I64; omega) w).mono fun e w' ⟨he, hb⟩ => ⟨by rw [ex9.1, ex9.2] at he; exact he, hb⟩
theorem k_of2 (w : World) : Calls Tryd.prog 28 #[.int .i64 175680000000] w fun e w' => e = .returned (.agg #[.int .i64 0, .int .u64 175680000000]) ∧ Below w.heap.size w w' :=
  (rof_any 175680000000 (by unfold I64; omega) w).mono fun e w' ⟨he, hb⟩ => ⟨by rw [ex6.1, ex6.2] at he; exact he, hb⟩
theorem ex1' : dQ (val (-1) 18446744073709551611) 2 6 = -2 ∧ dE (val (-1) 18446744073709551611) 2 6 = 0 := by decide +kernel
theorem ex2' : dQ (val (-1) 18446744073709551611) 2 5 = -3 ∧ dE (val (-1) 18446744073709551611) 2 5 = 0 := by decide +kernel
theorem k_d1 (w : World) (hch : Ch w) : Calls Tryd.prog 18 #[.agg #[.int .i64 (-1), .int .u64 18446744073709551611], .int .i64 2, .int .i64 6] w fun e w' => e = .returned (.tuple #[.int .i64 (-2), .int .i64 0]) ∧ Below w.heap.size w w' :=
  (rdivide_of (-1) 18446744073709551611 2 6 (by unfold I64; omega) (by unfold U64; omega) (by unfold I64; omega) w hch).mono fun e w' ⟨he, hb⟩ => ⟨by rw [ex1'.1, ex1'.2] at he; exact he, hb⟩
theorem k_d2 (w : World) (hch : Ch w) : Calls Tryd.prog 18 #[.agg #[.int .i64 (-1), .int .u64 18446744073709551611], .int .i64 2, .int .i64 5] w fun e w' => e = .returned (.tuple #[.int .i64 (-3), .int .i64 0]) ∧ Below w.heap.size w w' :=
  (rdivide_of (-1) 18446744073709551611 2 5 (by unfold I64; omega) (by unfold U64; omega) (by unfold I64; omega) w hch).mono fun e w' ⟨he, hb⟩ => ⟨by rw [ex2'.1, ex2'.2] at he; exact he, hb⟩
theorem k_am (w : World) (hch : Ch w) : Calls Tryd.prog 23 #[.agg #[.int .i64 0, .int .u64 6588000000000], .int .i64 6] w fun e w' => e = .returned (.tuple #[.int .i64 4, .agg #[.int .i64 0, .int .u64 175680000000], .int .i64 0]) ∧ Below w.heap.size w w' :=
  (amount_any 0 6588000000000 6 (by unfold I64; omega) (by unfold U64; omega) w hch).mono fun e w' ⟨he, hb⟩ => ⟨by rw [ex3.1, ex3.2.1, ex3.2.2.1, ex3.2.2.2] at he; exact he, hb⟩
theorem k_pe (w : World) (hch : Ch w) : Calls Tryd.prog 29 #[.int .i64 1005, .int .i64 5000, .int .i64 2] w fun e w' => e = .returned (.tuple #[.int .i64 6, .int .i64 0]) ∧ Below w.heap.size w w' :=
  (percent_any 1005 5000 2 (by unfold I64; omega) (by unfold I64; omega) w hch).mono fun e w' ⟨he, hb⟩ => ⟨by rw [ex4.1, ex4.2] at he; exact he, hb⟩
theorem k_st (w : World) (hch : Ch w) : Calls Tryd.prog 36 #[.int .i64 1250, .int .i64 100, .int .i64 5] w fun e w' => e = .returned (.tuple #[.int .i64 1300, .int .i64 0]) ∧ Below w.heap.size w w' :=
  (step_any 1250 100 5 (by unfold I64; omega) (by unfold I64; omega) w hch).mono fun e w' ⟨he, hb⟩ => ⟨by rw [ex5.1, ex5.2] at he; exact he, hb⟩

theorem k_va (w : World) : Calls Tryd.prog 20 #[.int .i64 6] w fun e w' => e = .returned (.bool true) ∧ w = w' := valid_any 6 w
/-- What must live through region 7: the box of what is left, the three parts. -/
theorem keep5 {w W W1 : World} {n6 g : Nat} {a b c d e : Value}
    (h : W.cell? ⟨n6, 0, none⟩ = some a ∧ W.cell? ⟨n6, 1, none⟩ = some b ∧ W.cell? ⟨g, 0, none⟩ = some c ∧ W.cell? ⟨g, 1, none⟩ = some d ∧ W.cell? ⟨g, 2, none⟩ = some e ∧ Below w.heap.size w W) (hk : Below W.heap.size W W1) :
    W1.cell? ⟨n6, 0, none⟩ = some a ∧ W1.cell? ⟨n6, 1, none⟩ = some b ∧ W1.cell? ⟨g, 0, none⟩ = some c ∧ W1.cell? ⟨g, 1, none⟩ = some d ∧ W1.cell? ⟨g, 2, none⟩ = some e ∧ Below w.heap.size w W1 :=
  ⟨keepc hk h.1, keepc hk h.2.1, keepc hk h.2.2.1, keepc hk h.2.2.2.1, keepc hk h.2.2.2.2.1, btr h.2.2.2.2.2 hk⟩

set_option maxRecDepth 100000 in
set_option maxHeartbeats 8000000 in
theorem live2 : Live2 := by
  intro w hch
  go_enter Tryd.func22, Tryd.ntmps22
  go_wp2_with fail
  refine (k_of _).mono ?_
  rintro e w1 ⟨rfl, b1⟩
  go_wp2_with fail
  refine (k_d1 _ (hch.keep b1)).mono ?_
  rintro e w2 ⟨rfl, b2⟩
  have B2 := btr b1 b2
  clear b1 b2
  go_wp2_with fail
  refine (k_of _).mono ?_
  rintro e w3 ⟨rfl, b3⟩
  have B3 := btr B2 b3
  go_wp2_with fail
  refine (k_d2 _ (hch.keep B3)).mono ?_
  rintro e w4 ⟨rfl, b4⟩
  have B4 := btr B3 b4
  clear B2 B3 b3 b4
  go_wp2_with fail
  refine (k_am _ (hch.keep B4)).mono ?_
  rintro e w5 ⟨rfl, b5⟩
  have B5 := btr B4 b5
  have Q5 := Own.new w5 (.int .i64 0) (.int .u64 175680000000) 24
  have Q5' := Q5.al (.cells #[.int .i64 1, .int .i64 0, .int .i64 2] 3)
  clear B4 b5
  go_wp2_with fail
  refine (lsplit _ _ _ (by simp) (fun i hi => ?_)).mono ?_
  · match i, hi with
    | 0, _ => simp [go_sem]
    | 1, _ => simp [go_sem]
    | 2, _ => simp [go_sem]
  rintro e w6 ⟨g, cg, rfl, g0, g1, g2, b6⟩
  have Q6 := Q5'.keep b6
  have B6 := btr (bal (bal B5 _) _) b6
  clear Q5 Q5' B5 b6
  go_wp2_with fail
  refine (k_pe _ (hch.keep B6)).mono ?_
  rintro e w7 ⟨rfl, b7⟩
  have Q7 := Q6.keep b7
  have B7 := btr B6 b7
  have h0 := keepc b7 g0
  have h1 := keepc b7 g1
  have h2 := keepc b7 g2
  clear Q6 B6 b7 g0 g1 g2
  go_wp2_with fail
  refine (k_st _ (hch.keep B7)).mono ?_
  rintro e w8 ⟨rfl, b8⟩
  obtain ⟨q0, q1, _, _⟩ := Q7.keep b8
  have B8 := btr B7 b8
  have g0 := keepc b8 h0
  have g1 := keepc b8 h1
  have g2 := keepc b8 h2
  clear Q7 B7 b8 h0 h1 h2
  go_wp2_with fail
  generalize w5.heap.size = n6 at *
  have K8 := And.intro (show w8.drew.cell? ⟨n6, 0, none⟩ = _ from q0) (And.intro (show w8.drew.cell? ⟨n6, 1, none⟩ = _ from q1) (And.intro (show w8.drew.cell? ⟨g, 0, none⟩ = _ from g0) (And.intro (show w8.drew.cell? ⟨g, 1, none⟩ = _ from g1) (And.intro (show w8.drew.cell? ⟨g, 2, none⟩ = _ from g2) (bdr B8)))))
  go_region_held3 (fun W => W.cell? ⟨n6, 0, none⟩ = some (.int .i64 0) ∧ W.cell? ⟨n6, 1, none⟩ = some (.int .u64 175680000000) ∧ W.cell? ⟨g, 0, none⟩ = some (.int .i64 (-2)) ∧ W.cell? ⟨g, 1, none⟩ = some (.int .i64 0) ∧ W.cell? ⟨g, 2, none⟩ = some (.int .i64 (-5)) ∧ Below w.heap.size w W)
    (first | exact K8 | exact keep5 (by assumption) hk | (go_split_ands; exact keep5 ⟨by assumption, by assumption, by assumption, by assumption, by assumption, by assumption⟩ hk))
    (first
      | (go_at_call 28; refine (k_of2 _).mono ?_; rintro e W1 ⟨rfl, hk⟩))
  clear K8 q0 q1 g0 g1 g2
  go_split_ands
  go_wp2_with fail
  refine (k_va _).mono ?_
  rintro e W2 ⟨rfl, rfl⟩
  go_wp2_with fail
  go_ret
  exact ⟨rfl, by assumption⟩
end Go.Proofs.YtjhfbnndapopgaaDoor
