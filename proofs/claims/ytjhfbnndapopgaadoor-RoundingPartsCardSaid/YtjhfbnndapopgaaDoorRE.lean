/-
  The contract of the document's own Divide.
-/
import Derived.Test.YtjhfbnndapopgaaDoorRB
import Derived.Test.YtjhfbnndapopgaaDoorRefG
import Derived.Test.YtjhfbnndapopgaaDoorRefE
import Derived.Test.YtjhfbnndapopgaaDoorRefD
import Derived.Test.YtjhfbnndapopgaaDoorRead
import Derived.Deep.RegionWith
import Derived.Deep.DeepCutAuto
namespace Go.Proofs.YtjhfbnndapopgaaDoor
open Go Go.RowKit WM

theorem rdivide_no (a l n m : Int) (h : (decide (1 ≤ n) && validB m) = false) (w : World) :
    Calls Tryd.prog 19 #[.agg #[.int .i64 a, .int .u64 l], .int .i64 n, .int .i64 m] w fun e w' => e = .returned (.tuple #[.int .i64 0, .int .i64 1]) ∧ Below w.heap.size w w' := by
  by_cases hn : n < 1
  · have hd : decide (n < 1) = true := by simpa using hn
    clear h
    go_enter Tryd.func19, Tryd.ntmps19
    go_wp2_with fail
    go_ret2
    exact ⟨rfl, bal (bref _) _⟩
  · have hd : decide (n < 1) = false := by simpa using hn
    have hv : validB m = false := by
      have : decide (1 ≤ n) = true := by simp; omega
      rw [this, Bool.true_and] at h; exact h
    have V := fun W => rvalid_any m W
    simp only [hv] at V
    have V := Lib.hid V
    clear h hv
    go_enter Tryd.func19, Tryd.ntmps19
    go_wp2_with fail
    refine (V.out _).mono ?_
    rintro e w1 ⟨rfl, rfl⟩
    go_wp2_with fail
    go_ret2
    exact ⟨rfl, bal (bref _) _⟩

theorem one64r : I64 1 := by unfold I64; omega
theorem odd_lo {q : Int} (hq : inW q = true) : ((wL q) % 2 == 1) = oddB q := by
  rw [wL_in hq, Bool.eq_iff_iff, beq_iff_eq]
  unfold oddB
  rw [decide_eq_true_eq]; omega

set_option maxRecDepth 100000 in
set_option maxHeartbeats 8000000 in
theorem rdivide_yes (a l n m : Int) (hh : I64 a) (hl : U64 l) (hn : I64 n) (hn1 : 1 ≤ n) (hm : 1 ≤ m ∧ m ≤ 6) (w : World) :
    Calls Tryd.prog 19 #[.agg #[.int .i64 a, .int .u64 l], .int .i64 n, .int .i64 m] w fun e w' =>
      e = .returned (.tuple #[.int .i64 (toInt (quoI (val a l) n m)), .int .i64 (if isInt (quoI (val a l) n m) then 0 else 6)]) ∧ Below w.heap.size w w' := by
  have hvI := inW_val hh hl
  obtain ⟨k1, k2, k3, k4, k5, _⟩ := div_parts hn1 hn hvI
  have V := fun W => rvalid_any m W
  have hv : validB m = true := by simp [validB, hm.1, hm.2]
  simp only [hv] at V
  have V := Lib.hid V
  have DIV := fun W => rdiv_any a l n hh hl hn hn1 W
  have hqb := q_bd hn1 hvI
  have hsg := neg_h (h := a) hl
  have hn2 : n ≤ 9223372036854775807 := hn.2
  have hQ : quoI (val a l) n m = if val a l % n = 0 then val a l / n else if upB (decide (val a l < 0)) (oddB (val a l / n)) (val a l % n) n m then val a l / n + 1 else val a l / n := rfl
  obtain ⟨vn, hvn⟩ : ∃ b, decide (val a l < 0) = b := ⟨_, rfl⟩
  obtain ⟨q, hq⟩ : ∃ q, val a l / n = q := ⟨_, rfl⟩
  obtain ⟨r, hr⟩ : ∃ r, val a l % n = r := ⟨_, rfl⟩
  obtain ⟨QQ, hQQ⟩ : ∃ x, quoI (val a l) n m = x := ⟨_, rfl⟩
  have han : decide (a < 0) = vn := by rw [← hvn]; exact decide_eq_decide.2 hsg
  rw [hQQ, hvn, hq, hr] at hQ
  rw [hQQ]
  rw [hq] at k1 hqb
  rw [hr] at k2 k3 hqb
  simp only [hq, hr] at DIV
  have DIV := Lib.hid DIV
  have hqe : val (wH q) (wL q) = q := val_w k1
  have hcl : ¬ n < 1 := by omega
  clear hvn hq hr hQQ hsg k4 k5 hv hvI
  by_cases hr0 : r = 0
  · subst hr0
    rw [if_pos rfl] at hQ
    have INT := fun W => rint_any (wH q) (wL q) (wH_I64 _) (wL_U64 _) W
    rw [hqe] at INT
    have hQs := hQ.symm
    clear hQ
    subst hQs
    clear hqb hqe k1 k2 k3 han
    cases hi : isInt q
    all_goals
      simp only [hi] at INT
      have INT := Lib.hid INT
      have HI := Lib.hid hi
      clear hi
      go_enter Tryd.func19, Tryd.ntmps19
      go_wp2_with fail
      refine (V.out _).mono ?_
      rintro e w1 ⟨rfl, rfl⟩
      go_wp2_with fail
      refine (DIV.out _).mono ?_
      rintro e w2 ⟨rfl, q2⟩
      have Z2 : Below w.heap.size w (w2.alloc (.cells #[.int .i64 (wH q), .int .u64 (wL q)] 24)) := bal (btr (bal (bref w) _) q2) _
      have X2 := Own.new w2 (.int .i64 (wH q)) (.int .u64 (wL q)) 24
      clear q2
      obtain ⟨x0, x1, _, _⟩ := X2
      go_wp2_with fail
      refine (INT.out _).mono ?_
      rintro e w3 ⟨rfl, q3⟩
      have Z3 := btr Z2 q3
      go_wp2_with fail
      go_ret2
      first
        | exact ⟨rfl, Z3⟩
        | exact ⟨by simp only [toInt, HI.out]; rfl, Z3⟩
  · rw [if_neg hr0] at hQ
    have hrp : 0 < r := by omega
    have hrd : decide (0 < r) = true := by simpa using hrp
    have UP := fun W => up_any vn (oddB q) r n m ⟨by omega, hn2⟩ k2 hm W
    have hod := odd_lo k1
    obtain ⟨B, hB⟩ : ∃ B, upB vn (oddB q) r n m = B := ⟨_, rfl⟩
    rw [hB] at hQ
    simp only [hB] at UP
    obtain ⟨O, hO⟩ : ∃ B, oddB q = B := ⟨_, rfl⟩
    simp only [hO] at UP
    rw [hO] at hod
    have UP := Lib.hid UP
    have hlo0 : 0 ≤ wL q := (wL_U64 q).1
    cases B
    · rw [if_neg (by decide)] at hQ
      have INT := fun W => rint_any (wH q) (wL q) (wH_I64 _) (wL_U64 _) W
      rw [hqe] at INT
      have hQs := hQ.symm
      clear hQ
      subst hQs
      clear hqb hqe k1 k2 k3 hB hO hr0
      cases hi : isInt q
      all_goals
        simp only [hi] at INT
        have INT := Lib.hid INT
        have HI := Lib.hid hi
        clear hi
        go_enter Tryd.func19, Tryd.ntmps19
        go_wp2_with fail
        refine (V.out _).mono ?_
        rintro e w1 ⟨rfl, rfl⟩
        go_wp2_with fail
        refine (DIV.out _).mono ?_
        rintro e w2 ⟨rfl, q2⟩
        have Z2 : Below w.heap.size w (w2.alloc (.cells #[.int .i64 (wH q), .int .u64 (wL q)] 24)) := bal (btr (bal (bref w) _) q2) _
        have X2 := Own.new w2 (.int .i64 (wH q)) (.int .u64 (wL q)) 24
        have A2 : Own (w2.alloc (.cells #[.int .i64 (wH q), .int .u64 (wL q)] 24)) w.heap.size (.int .i64 a) (.int .u64 l) := ((Own.new w _ _ _).keep q2).al _
        clear q2
        obtain ⟨x0, x1, _, _⟩ := X2
        obtain ⟨a0, a1, _, _⟩ := A2
        go_wp2_with fail
        refine (UP.out _).mono ?_
        rintro e w3 ⟨rfl, rfl⟩
        go_wp2_with fail
        refine (INT.out _).mono ?_
        rintro e w4 ⟨rfl, q4⟩
        have Z4 := btr Z2 q4
        go_wp2_with fail
        go_ret2
        first
          | exact ⟨rfl, Z4⟩
          | exact ⟨by simp only [toInt, HI.out]; rfl, Z4⟩
    · rw [if_pos rfl] at hQ
      have hqd : inW (q + 1) = true := hqb hr0
      have h1e : val (wH 1) (wL 1) = 1 := val_w (inW_I64 (by unfold I64; omega))
      have ADD := fun W => radd_any (wH q) (wL q) (wH 1) (wL 1) (wH_I64 _) (wL_U64 _) (wH_I64 _) (wL_U64 _) W
      simp only [hqe, h1e, wE_in hqd] at ADD
      have hqde : val (wH (q + 1)) (wL (q + 1)) = q + 1 := val_w hqd
      have INT := fun W => rint_any (wH (q + 1)) (wL (q + 1)) (wH_I64 _) (wL_U64 _) W
      rw [hqde] at INT
      have hQs := hQ.symm
      clear hQ
      subst hQs
      have ADD := Lib.hid ADD
      clear hqb hqe k1 k2 k3 hB hO hr0 hqd h1e hqde
      obtain ⟨TT, hTT⟩ : ∃ t, toInt (q + 1) = t := ⟨_, rfl⟩
      obtain ⟨EE, hEE⟩ : ∃ t : Int, (if isInt (q + 1) = true then 0 else 6) = t := ⟨_, rfl⟩
      obtain ⟨FF, hFF⟩ : ∃ t, isInt (q + 1) = t := ⟨_, rfl⟩
      rw [hTT, hEE]
      simp only [hTT, hFF] at INT
      rw [hFF] at hEE
      have hTF : FF = false → TT = 0 := by intro h; rw [← hTT]; unfold toInt; rw [hFF, h]; rfl
      have HEE := Lib.hid hEE; have HTF := Lib.hid hTF
      clear hTT hEE hFF hTF
      go_enter Tryd.func19, Tryd.ntmps19
      go_wp2_with fail
      refine (V.out _).mono ?_
      rintro e w1 ⟨rfl, rfl⟩
      go_wp2_with fail
      refine (DIV.out _).mono ?_
      rintro e w2 ⟨rfl, q2⟩
      have Z2 : Below w.heap.size w (w2.alloc (.cells #[.int .i64 (wH q), .int .u64 (wL q)] 24)) := bal (btr (bal (bref w) _) q2) _
      have X2 := Own.new w2 (.int .i64 (wH q)) (.int .u64 (wL q)) 24
      have A2 : Own (w2.alloc (.cells #[.int .i64 (wH q), .int .u64 (wL q)] 24)) w.heap.size (.int .i64 a) (.int .u64 l) := ((Own.new w _ _ _).keep q2).al _
      have sw : w.heap.size < w2.heap.size := by have := q2.size; simp at this; omega
      clear q2
      have XX := X2
      obtain ⟨x0, x1, x2, x3⟩ := XX
      obtain ⟨a0, a1, _, _⟩ := A2
      go_wp2_with fail
      refine (UP.out _).mono ?_
      rintro e w3 ⟨rfl, rfl⟩
      go_wp2_with fail
      obtain ⟨WB, hWB⟩ : ∃ X, w2.alloc (.cells #[.int .i64 (wH q), .int .u64 (wL q)] 24) = X := ⟨_, rfl⟩
      rw [hWB] at X2 x0 x1 x2 x3 Z2 a0 a1 ⊢
      clear hWB a0 a1
      generalize w2.heap.size = b at *
      have lb : b < WB.heap.size := X2.lt
      go_cut [11, 12] (fun v11 v12 wx => ∃ c : Nat, v11 = .pointer (some ⟨c, 0, none⟩) ∧ v12 = .int .i64 0 ∧ Own wx c (.int .i64 (wH (q + 1))) (.int .u64 (wL (q + 1))) ∧ Own wx b (.int .i64 (wH q)) (.int .u64 (wL q)) ∧ Below w.heap.size w wx)
      case first =>
        go_region_with (first
          | (go_at_call 28; refine (rof_any 1 one64r _).mono ?_; rintro e W1 ⟨rfl, hk⟩; have X1 : Own W1 b (.int .i64 (wH q)) (.int .u64 (wL q)) := Own.keep (by repeat (first | exact X2 | refine Own.dr ?_ | refine Own.al ?_ _)) hk; have Z1 : Below w.heap.size w W1 := btr (by repeat (first | exact Z2 | refine bdr ?_ | refine bal ?_ _)) hk; have l1 := X1.lt; have XY := X1; obtain ⟨y0, y1, y2, y3⟩ := XY; first | (refine (fun (XA : Own W1 WB.heap.size (.int .i64 0) (.int .u64 0)) => ?_) (Own.keep ?_ hk); rotate_left; (refine ⟨?_, ?_, ?_, ?_⟩ <;> (simp [go_sem]; done))) | skip)
          | (go_at_call 25; refine (ADD.out _).mono ?_; rintro e W2 ⟨rfl, hk2⟩; have X3 : Own W2 b (.int .i64 (wH q)) (.int .u64 (wL q)) := Own.keep (by repeat (first | exact X1 | refine Own.dr ?_ | refine Own.al ?_ _)) hk2; have Z3 : Below w.heap.size w W2 := btr (by repeat (first | exact Z1 | refine bdr ?_ | refine bal ?_ _)) hk2; have l2 := X3.lt; first | (have XB := Own.keep XA hk2; obtain ⟨v0, v1, v2, v3⟩ := XB) | (refine (fun (XB : Own W2 W1.heap.size (.int .i64 0) (.int .u64 0)) => ?_) (Own.keep ?_ hk2); rotate_left; (refine ⟨?_, ?_, ?_, ?_⟩ <;> (simp [go_sem]; done)); obtain ⟨v0, v1, v2, v3⟩ := XB) | skip))
        all_goals (go_wp2_with fail; go_meet; refine ⟨_, rfl, rfl, ?_, ?_, ?_⟩)
        all_goals (try (exact Own.new _ _ _ _))
        all_goals (try (refine Own.put (x := .int .i64 0) (y := .int .u64 0) ?_ _ _; refine ⟨?_, ?_, ?_, ?_⟩ <;> assumption))
        all_goals (repeat (first | exact X3 | exact Z3 | refine Own.dr ?_ | refine Own.al ?_ _ | refine Own.far ?_ (by dsimp only; omega) _ | refine bdr ?_ | refine bal ?_ _ | refine bset ?_ (by dsimp only; omega) _))
      case rest =>
        obtain ⟨c, rfl, rfl, XC, X5, Z5⟩ := hcut
        clear X2 Z2 x0 x1 x2 x3 ADD DIV V UP
        obtain ⟨c0, c1, _, _⟩ := XC
        have X6 := X5.put (.int .i64 (wH (q + 1))) (.int .u64 (wL (q + 1)))
        have Z6 := bset (bset Z5 (p := ⟨b, 0, none⟩) (by dsimp only; omega) (.int .i64 (wH (q + 1)))) (p := ⟨b, 1, none⟩) (by dsimp only; omega) (.int .u64 (wL (q + 1)))
        obtain ⟨x0, x1, x2, x3⟩ := X5
        cases FF
        all_goals
          have INT := Lib.hid INT
          first | (have E1 : (0 : Int) = EE := HEE.out; subst E1) | (have E1 : (6 : Int) = EE := HEE.out; subst E1)
          first | (have HT0 : Hid (TT = 0) := Lib.hid (HTF.out rfl); clear HTF) | (have HT0 : Hid True := Lib.hid trivial; clear HTF)
          go_wp2_with fail
          refine (INT.out _).mono ?_
          rintro e w4 ⟨rfl, q4⟩
          have Z7 := btr Z6 q4
          go_wp2_with fail
          go_ret2
          first
            | exact ⟨rfl, Z7⟩
            | exact ⟨by rw [HT0.out]; rfl, Z7⟩
end Go.Proofs.YtjhfbnndapopgaaDoor
