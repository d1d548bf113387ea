/-
  The walk of the law WideDivides.
-/
import Derived.Test.YtfapcllhcbedlaaDoorDividesB
import Derived.Test.YtfapcllhcbedlaaDoorMathH
import Derived.Test.YtfapcllhcbedlaaDoorExact
import Derived.Deep.RegionWith
import Derived.Deep.DeepCutAuto
namespace Go.Proofs.YtfapcllhcbedlaaDoor
open Go Go.RowKit WM

theorem keep4 {w W W1 : World} {n m : Nat} {a b c d : Value} (h : W.cell? ⟨n, 0, none⟩ = some a ∧ W.cell? ⟨n, 1, none⟩ = some b ∧ W.cell? ⟨m, 0, none⟩ = some c ∧ W.cell? ⟨m, 1, none⟩ = some d ∧ Below w.heap.size w W) (hk : Below W.heap.size W W1) :
    W1.cell? ⟨n, 0, none⟩ = some a ∧ W1.cell? ⟨n, 1, none⟩ = some b ∧ W1.cell? ⟨m, 0, none⟩ = some c ∧ W1.cell? ⟨m, 1, none⟩ = some d ∧ Below w.heap.size w W1 :=
  ⟨keepc hk h.1, keepc hk h.2.1, keepc hk h.2.2.1, keepc hk h.2.2.2.1, btr h.2.2.2.2 hk⟩

set_option maxRecDepth 100000 in
set_option maxHeartbeats 8000000 in
theorem divides_any (h l n : Int) (h1 : I64 h) (h2 : U64 l) (h5 : I64 n) (w : World) (ht : Tb w) :
    Calls Tryd.prog 8 #[.agg #[.int .i64 h, .int .u64 l], .int .i64 n] w fun e w' => e = .returned (.bool true) ∧ Below w.heap.size w w' := by
  by_cases hn : n < 1
  · have DIV := Lib.hid (fun W => div_no h l n hn W)
    go_enter Tryd.func8, Tryd.ntmps8
    go_wp2_with fail
    refine (DIV.out _).mono ?_
    rintro e w1 ⟨rfl, q1⟩
    have Z1 := bal (btr (bal (bref w) _) q1) (.cells #[.int .i64 0, .int .u64 0] 24)
    have T1 := ht.keep Z1
    go_wp2_with fail
    refine (live_any _ T1).mono ?_
    rintro e w2 ⟨rfl, q2⟩
    have Z2 := btr Z1 q2
    go_wp2_with fail
    go_ret
    exact ⟨rfl, Z2⟩
  · have hn1 : 1 ≤ n := by omega
    cases hyes : inW (val h l / n * n)
    · exact divides_out h l n h1 h2 h5 hn1 hyes w ht
    obtain ⟨k1, k2, k3, k4, k5, k6⟩ := div_parts hn1 h5 (inW_val h1 h2)
    have DIV := fun W => div_any h l n h1 h2 h5 hn1 W
    obtain ⟨q, hq⟩ : ∃ q, val h l / n = q := ⟨_, rfl⟩
    obtain ⟨r, hr⟩ : ∃ r, val h l % n = r := ⟨_, rfl⟩
    simp only [hq, hr] at DIV hyes k1 k2 k3 k4 k5 k6
    clear hq hr
    have DIV := Lib.hid DIV
    have hrI := k4
    have hre : val (wH r) (wL r) = r := val_w (inW_I64 k4)
    have hqe : val (wH q) (wL q) = q := val_w k1
    have SC := fun W => scale_any (wH q) (wL q) n (wH_I64 q) (wL_U64 q) h5 W
    simp only [hqe] at SC
    cases hi : inW (q * n)
    · exact absurd hi (by rw [hyes]; decide)
    · simp only [wE_in hi] at SC
      have SC := Lib.hid SC
      have ADD := fun W => add_x (wH (q * n)) (wL (q * n)) (wH r) (wL r) (wH_I64 _) (wL_U64 _) (wH_I64 _) (wL_U64 _) W
      simp only [val_w hi, hre, k5, wH_val h1 h2, wL_val h1 h2, wE_in (inW_val h1 h2)] at ADD
      have ADD := Lib.hid ADD
      clear hi hyes k6 k5 hre hqe
      go_enter Tryd.func8, Tryd.ntmps8
      have A0 := Own.new w (.int .i64 h) (.int .u64 l) 24
      go_wp2_with fail
      refine (DIV.out _).mono ?_
      rintro e w1 ⟨rfl, q1⟩
      have A1 := (A0.keep q1).al (.cells #[.int .i64 (wH q), .int .u64 (wL q)] 24)
      have Q1 := Own.new w1 (.int .i64 (wH q)) (.int .u64 (wL q)) 24
      have Z1 := bal (btr (bal (bref w) _) q1) (.cells #[.int .i64 (wH q), .int .u64 (wL q)] 24)
      clear A0 q1
      have Q1x := Q1
      obtain ⟨f1, f2, _, _⟩ := Q1x
      go_wp2_with fail
      clear f1 f2
      refine (SC.out _).mono ?_
      rintro e w2 ⟨rfl, q2⟩
      have A2 := (A1.keep q2).al (.cells #[.int .i64 (wH (q * n)), .int .u64 (wL (q * n))] 24)
      have Q2 := (Q1.keep q2).al (.cells #[.int .i64 (wH (q * n)), .int .u64 (wL (q * n))] 24)
      have P2 := Own.new w2 (.int .i64 (wH (q * n))) (.int .u64 (wL (q * n))) 24
      have Z2 := bal (btr Z1 q2) (.cells #[.int .i64 (wH (q * n)), .int .u64 (wL (q * n))] 24)
      clear A1 Q1 Z1 q2
      clear Q2
      have PX := P2; have AX := A2
      obtain ⟨p0, p1, _, _⟩ := PX; obtain ⟨a0, a1, _, _⟩ := AX
      go_wp2_with fail
      go_cut [10, 11] (fun v10 v11 wx => ∃ b : Nat, v10 = .pointer (some ⟨b, 0, none⟩) ∧ v11 = .int .i64 0 ∧ Own wx b (.int .i64 h) (.int .u64 l) ∧ Own wx w.heap.size (.int .i64 h) (.int .u64 l) ∧ Below w.heap.size w wx)
      case first =>
        go_region_with (first
          | (go_at_call 31; refine (of_x r hrI _).mono ?_; rintro e W1 ⟨rfl, rfl⟩)
          | (go_at_call 18; refine (ADD.out _).mono ?_; rintro e W1 ⟨rfl, rfl⟩))
        all_goals (go_wp2_with fail; go_meet; refine ⟨_, rfl, rfl, ?_, A2.keep ?_, ?_⟩)
        all_goals try (refine ⟨?_, ?_, ?_, ?_⟩ <;> (simp [go_sem]; done))
        all_goals (repeat (first | exact Z2 | exact bref _ | refine bdr ?_ | refine bal ?_ _))
      case rest =>
        obtain ⟨b, rfl, rfl, X3, A3, Z3⟩ := hcut
        clear P2 A2 p0 p1 a0 a1 Z2
        obtain ⟨x0, x1, _, _⟩ := X3
        obtain ⟨y0, y1, _, _⟩ := A3
        have T3 := ht.keep Z3
        go_wp2_with fail
        refine (live_any _ T3).mono ?_
        rintro e w4 ⟨rfl, q4⟩
        go_wp2_with fail
        go_ret
        exact ⟨rfl, btr Z3 q4⟩
end Go.Proofs.YtfapcllhcbedlaaDoor
